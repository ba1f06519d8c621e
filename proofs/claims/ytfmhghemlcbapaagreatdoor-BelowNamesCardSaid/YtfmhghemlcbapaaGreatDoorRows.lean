/-
  NARROWER THAN 'FOR EVERY INPUT', by the rows' own cells (each row's printed sentence says how): BelowCosts: laid · BelowNames: laid · BelowRenew: laid · BelowMean: laid.
  DERIVED. THE GIVEN ROWS OF THIS SEAT. 4 by the template 'for every input the law returns true; each argument reads behind the call as it read before'; 0 by the template 'total and deterministic' (their statements: YtfmhghemlcbapaaGreatDoorTotals.lean).
  GIVEN WITH THE SEED: the statements are not yours to turn. If you find one false, say at which input.
  Laid BY PROGRAM, IN A SANDBOX (cutbox-rows.mjs): the forced cells as the released guide's own fill.sh prints them over the translation 4ac0ac5a02eef904… (all of the seat's roots in one cut). By AI agents, Wed Nov 11 2026. No macro, syntax, notation, axiom, sorry.
-/
import Derived.Test.YtfmhghemlcbapaaGreatDoorChecked
import GoSem.PinnedTables
import GoSem.Claim
import GoSem.ClaimJoined
import GoSem.ClaimMapViews
import Derived.JoinedTies
import Derived.KernelRfl
namespace Go.Proofs.YtfmhghemlcbapaaGreatDoor
/- THE CELL 'sum', in the pinned program and in every row, IS THE sha256 OF THE DUMP (.gsa) THAT YtfmhghemlcbapaaGreatDoorProg.lean LOADS. Nothing in Lean hashes anything: it is a label: what it is worth is what the hold of that sum in a sandbox is worth. -/
noncomputable def Tryz.pinned : Pinned := { name := "ytfmhghemlcbapaagreatdoor", sum := "4ac0ac5a02eef9040674b0699757af3ad48ad6e944e957d15ab45ff4dfa29c2e", checked := Tryz.checked }
namespace Rows
def none {H : Type} : Left H := { results := [], args := [] }

/- WHAT THE LISTED PACKAGE-LEVEL VARIABLES READ AS WHEN THE CALL BEGINS. Each datum BY PROGRAM (the guide's laid-datum.mjs) off the statement by which the dump's own 'gosem.cut.vars' lays the variable. In a bare row this is a premise. The card (YtfmhghemlcbapaaGreatDoorCards.lean) ties it to the program's text. -/
def laid_unicode_utf8_acceptRanges {H : Type} : DataW H := .agg [.agg [.lit (.int .u8 128), .lit (.int .u8 191)], .agg [.lit (.int .u8 160), .lit (.int .u8 191)], .agg [.lit (.int .u8 128), .lit (.int .u8 159)], .agg [.lit (.int .u8 144), .lit (.int .u8 191)], .agg [.lit (.int .u8 128), .lit (.int .u8 143)], .agg [.lit (.int .u8 0), .lit (.int .u8 0)], .agg [.lit (.int .u8 0), .lit (.int .u8 0)], .agg [.lit (.int .u8 0), .lit (.int .u8 0)], .agg [.lit (.int .u8 0), .lit (.int .u8 0)], .agg [.lit (.int .u8 0), .lit (.int .u8 0)], .agg [.lit (.int .u8 0), .lit (.int .u8 0)], .agg [.lit (.int .u8 0), .lit (.int .u8 0)], .agg [.lit (.int .u8 0), .lit (.int .u8 0)], .agg [.lit (.int .u8 0), .lit (.int .u8 0)], .agg [.lit (.int .u8 0), .lit (.int .u8 0)], .agg [.lit (.int .u8 0), .lit (.int .u8 0)]]
/-- One of Go's own tables, pinned by name: the form's constant. -/
def laid_unicode_utf8_first : DataW Unit := Go.Pinned.utf8First

/-- 'tombolalaw09.BelowCosts': WHATEVER THE INPUT: true; the input reads as it did. -/
def belowCostsSpec : ChangeSpec := { name := "belowCosts", fn := fun _ => fun
  | [d] => { results := [.lit (.bool true)], args := [d] }
  | _ => none }
def belowCostsRow : OpenClaim := { program := "ytfmhghemlcbapaagreatdoor", sum := "4ac0ac5a02eef9040674b0699757af3ad48ad6e944e957d15ab45ff4dfa29c2e", func := "tombola/tombolalaw09.BelowCosts", spec := "belowCosts", inPlace := ["math/bits.Add64", "math/bits.Sub64", "internal/bytealg.IndexByteString", "internal/bytealg.IndexString"], unfollowed := true, recurses := true, named := ["math/bits.divideError", "math/bits.overflowError", "unicode/utf8.first", "unicode/utf8.acceptRanges", "internal/bytealg.MaxLen"], apart := false, laid := [("unicode/utf8.acceptRanges", laid_unicode_utf8_acceptRanges), ("unicode/utf8.first", laid_unicode_utf8_first)] }
def BelowCostsSaid : Prop := belowCostsRow.holds Tryz.pinned (OpenSpec.ofChange belowCostsSpec)

/-- ITS FALSE NEIGHBOUR: 'it returns false'. Refute it at one input. -/
def belowCostsWrong : ChangeSpec := { name := "belowCosts", fn := fun _ => fun
  | [d] => { results := [.lit (.bool false)], args := [d] }
  | _ => none }
def BelowCostsWrongFalsely : Prop := belowCostsRow.holds Tryz.pinned (OpenSpec.ofChange belowCostsWrong)

/-- 'tombolalaw09.BelowNames': WHATEVER THE INPUT: true; the input reads as it did. -/
def belowNamesSpec : ChangeSpec := { name := "belowNames", fn := fun _ => fun
  | [] => { results := [.lit (.bool true)], args := [] }
  | _ => none }
def belowNamesRow : OpenClaim := { program := "ytfmhghemlcbapaagreatdoor", sum := "4ac0ac5a02eef9040674b0699757af3ad48ad6e944e957d15ab45ff4dfa29c2e", func := "tombola/tombolalaw09.BelowNames", spec := "belowNames", inPlace := ["internal/bytealg.IndexByteString", "internal/bytealg.IndexString", "math/bits.Add64", "math/bits.Sub64"], unfollowed := true, recurses := true, named := ["unicode/utf8.first", "unicode/utf8.acceptRanges", "math/bits.divideError", "math/bits.overflowError", "internal/bytealg.MaxLen"], apart := false, laid := [("unicode/utf8.acceptRanges", laid_unicode_utf8_acceptRanges), ("unicode/utf8.first", laid_unicode_utf8_first)] }
def BelowNamesSaid : Prop := belowNamesRow.holds Tryz.pinned (OpenSpec.ofChange belowNamesSpec)

/-- ITS FALSE NEIGHBOUR: 'it returns false'. Refute it at one input. -/
def belowNamesWrong : ChangeSpec := { name := "belowNames", fn := fun _ => fun
  | [] => { results := [.lit (.bool false)], args := [] }
  | _ => none }
def BelowNamesWrongFalsely : Prop := belowNamesRow.holds Tryz.pinned (OpenSpec.ofChange belowNamesWrong)

/-- 'tombolalaw09.BelowRenew': WHATEVER THE INPUT: true; the input reads as it did. -/
def belowRenewSpec : ChangeSpec := { name := "belowRenew", fn := fun _ => fun
  | [d] => { results := [.lit (.bool true)], args := [d] }
  | _ => none }
def belowRenewRow : OpenClaim := { program := "ytfmhghemlcbapaagreatdoor", sum := "4ac0ac5a02eef9040674b0699757af3ad48ad6e944e957d15ab45ff4dfa29c2e", func := "tombola/tombolalaw09.BelowRenew", spec := "belowRenew", inPlace := ["internal/bytealg.IndexByteString", "internal/bytealg.IndexString", "math/bits.Add64", "math/bits.Sub64"], unfollowed := true, recurses := true, named := ["unicode/utf8.first", "unicode/utf8.acceptRanges", "math/bits.divideError", "math/bits.overflowError", "internal/bytealg.MaxLen"], apart := false, laid := [("unicode/utf8.acceptRanges", laid_unicode_utf8_acceptRanges), ("unicode/utf8.first", laid_unicode_utf8_first)] }
def BelowRenewSaid : Prop := belowRenewRow.holds Tryz.pinned (OpenSpec.ofChange belowRenewSpec)

/-- ITS FALSE NEIGHBOUR: 'it returns false'. Refute it at one input. -/
def belowRenewWrong : ChangeSpec := { name := "belowRenew", fn := fun _ => fun
  | [d] => { results := [.lit (.bool false)], args := [d] }
  | _ => none }
def BelowRenewWrongFalsely : Prop := belowRenewRow.holds Tryz.pinned (OpenSpec.ofChange belowRenewWrong)

/-- 'tombolalaw09.BelowMean': WHATEVER THE INPUT: true; the input reads as it did. -/
def belowMeanSpec : ChangeSpec := { name := "belowMean", fn := fun _ => fun
  | [d1, d2] => { results := [.lit (.bool true)], args := [d1, d2] }
  | _ => none }
def belowMeanRow : OpenClaim := { program := "ytfmhghemlcbapaagreatdoor", sum := "4ac0ac5a02eef9040674b0699757af3ad48ad6e944e957d15ab45ff4dfa29c2e", func := "tombola/tombolalaw09.BelowMean", spec := "belowMean", inPlace := ["internal/bytealg.IndexByteString", "internal/bytealg.IndexString", "math/bits.Add64", "math/bits.Sub64"], unfollowed := true, recurses := true, named := ["unicode/utf8.first", "unicode/utf8.acceptRanges", "math/bits.divideError", "math/bits.overflowError", "internal/bytealg.MaxLen"], apart := false, laid := [("unicode/utf8.acceptRanges", laid_unicode_utf8_acceptRanges), ("unicode/utf8.first", laid_unicode_utf8_first)] }
def BelowMeanSaid : Prop := belowMeanRow.holds Tryz.pinned (OpenSpec.ofChange belowMeanSpec)

/-- ITS FALSE NEIGHBOUR: 'it returns false'. Refute it at one input. -/
def belowMeanWrong : ChangeSpec := { name := "belowMean", fn := fun _ => fun
  | [d1, d2] => { results := [.lit (.bool false)], args := [d1, d2] }
  | _ => none }
def BelowMeanWrongFalsely : Prop := belowMeanRow.holds Tryz.pinned (OpenSpec.ofChange belowMeanWrong)

/- THE SECOND FORM. 'bulk': how many values and letters a reading holds, each counted each time it is reached (what is shared counts as often as it is met; a slice's spare places count too). A statement '..UptoSaid' is the law's where the arguments, and the package variables that the reading takes, are together of bulk at most 1048576: NARROWER than '..Said'. Prove '..Said' where nothing that the law and all that it calls make is longer than what came in: it says more and counts as full. Else prove '..UptoSaid'. A law counts once. -/
mutual
def uptoBulk {H : Type} : DataW H → Nat
  | .lit (.string bytes) => bytes.length + 1
  | .lit _ => 1
  | .nil => 1
  | .ptr d => uptoBulk d + 1
  | .slice elems spare => uptoBulkAll elems + uptoBulkAll spare + 1
  | .agg parts => uptoBulkAll parts + 1
  | .iface _ d => uptoBulk d + 1
  | .map entries => uptoBulkEntries entries + 1
  | .held _ => 1
def uptoBulkAll {H : Type} : List (DataW H) → Nat
  | [] => 0
  | d :: r => uptoBulk d + uptoBulkAll r
def uptoBulkEntries {H : Type} : List (Lit × DataW H) → Nat
  | [] => 0
  | x :: r => uptoBulkEntry x + uptoBulkEntries r
def uptoBulkEntry {H : Type} : Lit × DataW H → Nat
  | (.string bytes, d) => bytes.length + uptoBulk d + 1
  | (_, d) => uptoBulk d + 1
 end
def uptoSmall : (H : Type) → List (DataW H) → Bool := fun _ ds => decide (uptoBulkAll ds ≤ 1048576)
def OpenSpec.upto (s : _root_.Go.ChangeSpec) : _root_.Go.OpenSpec := { _root_.Go.OpenSpec.ofChange s with cond := some uptoSmall }

/-- 'tombolalaw09.BelowCosts', WHERE WHAT IT READS IS OF BULK AT MOST 1048576: true; the input reads as it did. -/
def belowCostsUptoRow : OpenClaim := { program := "ytfmhghemlcbapaagreatdoor", sum := "4ac0ac5a02eef9040674b0699757af3ad48ad6e944e957d15ab45ff4dfa29c2e", func := "tombola/tombolalaw09.BelowCosts", spec := "belowCosts", inPlace := ["math/bits.Add64", "math/bits.Sub64", "internal/bytealg.IndexByteString", "internal/bytealg.IndexString"], unfollowed := true, recurses := true, named := ["math/bits.divideError", "math/bits.overflowError", "unicode/utf8.first", "unicode/utf8.acceptRanges", "internal/bytealg.MaxLen"], apart := false, laid := [("unicode/utf8.acceptRanges", laid_unicode_utf8_acceptRanges), ("unicode/utf8.first", laid_unicode_utf8_first)], narrowed := true }
def BelowCostsUptoSaid : Prop := belowCostsUptoRow.holds Tryz.pinned (OpenSpec.upto belowCostsSpec)

/-- 'tombolalaw09.BelowNames', WHERE WHAT IT READS IS OF BULK AT MOST 1048576: true; the input reads as it did. -/
def belowNamesUptoRow : OpenClaim := { program := "ytfmhghemlcbapaagreatdoor", sum := "4ac0ac5a02eef9040674b0699757af3ad48ad6e944e957d15ab45ff4dfa29c2e", func := "tombola/tombolalaw09.BelowNames", spec := "belowNames", inPlace := ["internal/bytealg.IndexByteString", "internal/bytealg.IndexString", "math/bits.Add64", "math/bits.Sub64"], unfollowed := true, recurses := true, named := ["unicode/utf8.first", "unicode/utf8.acceptRanges", "math/bits.divideError", "math/bits.overflowError", "internal/bytealg.MaxLen"], apart := false, laid := [("unicode/utf8.acceptRanges", laid_unicode_utf8_acceptRanges), ("unicode/utf8.first", laid_unicode_utf8_first)], narrowed := true }
def BelowNamesUptoSaid : Prop := belowNamesUptoRow.holds Tryz.pinned (OpenSpec.upto belowNamesSpec)

/-- 'tombolalaw09.BelowRenew', WHERE WHAT IT READS IS OF BULK AT MOST 1048576: true; the input reads as it did. -/
def belowRenewUptoRow : OpenClaim := { program := "ytfmhghemlcbapaagreatdoor", sum := "4ac0ac5a02eef9040674b0699757af3ad48ad6e944e957d15ab45ff4dfa29c2e", func := "tombola/tombolalaw09.BelowRenew", spec := "belowRenew", inPlace := ["internal/bytealg.IndexByteString", "internal/bytealg.IndexString", "math/bits.Add64", "math/bits.Sub64"], unfollowed := true, recurses := true, named := ["unicode/utf8.first", "unicode/utf8.acceptRanges", "math/bits.divideError", "math/bits.overflowError", "internal/bytealg.MaxLen"], apart := false, laid := [("unicode/utf8.acceptRanges", laid_unicode_utf8_acceptRanges), ("unicode/utf8.first", laid_unicode_utf8_first)], narrowed := true }
def BelowRenewUptoSaid : Prop := belowRenewUptoRow.holds Tryz.pinned (OpenSpec.upto belowRenewSpec)

/-- 'tombolalaw09.BelowMean', WHERE WHAT IT READS IS OF BULK AT MOST 1048576: true; the input reads as it did. -/
def belowMeanUptoRow : OpenClaim := { program := "ytfmhghemlcbapaagreatdoor", sum := "4ac0ac5a02eef9040674b0699757af3ad48ad6e944e957d15ab45ff4dfa29c2e", func := "tombola/tombolalaw09.BelowMean", spec := "belowMean", inPlace := ["internal/bytealg.IndexByteString", "internal/bytealg.IndexString", "math/bits.Add64", "math/bits.Sub64"], unfollowed := true, recurses := true, named := ["unicode/utf8.first", "unicode/utf8.acceptRanges", "math/bits.divideError", "math/bits.overflowError", "internal/bytealg.MaxLen"], apart := false, laid := [("unicode/utf8.acceptRanges", laid_unicode_utf8_acceptRanges), ("unicode/utf8.first", laid_unicode_utf8_first)], narrowed := true }
def BelowMeanUptoSaid : Prop := belowMeanUptoRow.holds Tryz.pinned (OpenSpec.upto belowMeanSpec)

end Rows
end Go.Proofs.YtfmhghemlcbapaaGreatDoor
