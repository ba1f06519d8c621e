/-
  NARROWER THAN 'FOR EVERY INPUT', by the rows' own cells (each row's printed sentence says how): FreqTells: laid · FreqDraws: laid · FreqNames: laid · FreqShares: laid · FreqTimes: laid · FreqParted: laid · FreqCost: laid.
  DERIVED. THE GIVEN ROWS OF THIS SEAT. 7 by the template 'for every input the law returns true; each argument reads behind the call as it read before'; 0 by the template 'total and deterministic' (their statements: YtolfjhfmcgibbaaGreatDoorTotals.lean).
  GIVEN WITH THE SEED: the statements are not yours to turn. If you find one false, say at which input.
  Laid BY PROGRAM, IN A SANDBOX (cutbox-rows.mjs): the forced cells as the released guide's own fill.sh prints them over the translation 1a0692f0e2e4935d… (all of the seat's roots in one cut). By AI agents, Wed Nov 11 2026. No macro, syntax, notation, axiom, sorry.
-/
import Derived.Test.YtolfjhfmcgibbaaGreatDoorChecked
import GoSem.PinnedTables
import GoSem.Claim
import GoSem.ClaimJoined
import GoSem.ClaimMapViews
import Derived.JoinedTies
import Derived.KernelRfl
namespace Go.Proofs.YtolfjhfmcgibbaaGreatDoor
/- THE CELL 'sum', in the pinned program and in every row, IS THE sha256 OF THE DUMP (.gsa) THAT YtolfjhfmcgibbaaGreatDoorProg.lean LOADS. Nothing in Lean hashes anything: it is a label: what it is worth is what the hold of that sum in a sandbox is worth. -/
noncomputable def Tryz.pinned : Pinned := { name := "ytolfjhfmcgibbaagreatdoor", sum := "1a0692f0e2e4935da18ed615034b91ea6fcf305f44d8f700ea4b1798a6c954ad", checked := Tryz.checked }
namespace Rows
def none {H : Type} : Left H := { results := [], args := [] }

/- WHAT THE LISTED PACKAGE-LEVEL VARIABLES READ AS WHEN THE CALL BEGINS. Each datum BY PROGRAM (the guide's laid-datum.mjs) off the statement by which the dump's own 'gosem.cut.vars' lays the variable. In a bare row this is a premise. The card (YtolfjhfmcgibbaaGreatDoorCards.lean) ties it to the program's text. -/
def laid_unicode_utf8_acceptRanges {H : Type} : DataW H := .agg [.agg [.lit (.int .u8 128), .lit (.int .u8 191)], .agg [.lit (.int .u8 160), .lit (.int .u8 191)], .agg [.lit (.int .u8 128), .lit (.int .u8 159)], .agg [.lit (.int .u8 144), .lit (.int .u8 191)], .agg [.lit (.int .u8 128), .lit (.int .u8 143)], .agg [.lit (.int .u8 0), .lit (.int .u8 0)], .agg [.lit (.int .u8 0), .lit (.int .u8 0)], .agg [.lit (.int .u8 0), .lit (.int .u8 0)], .agg [.lit (.int .u8 0), .lit (.int .u8 0)], .agg [.lit (.int .u8 0), .lit (.int .u8 0)], .agg [.lit (.int .u8 0), .lit (.int .u8 0)], .agg [.lit (.int .u8 0), .lit (.int .u8 0)], .agg [.lit (.int .u8 0), .lit (.int .u8 0)], .agg [.lit (.int .u8 0), .lit (.int .u8 0)], .agg [.lit (.int .u8 0), .lit (.int .u8 0)], .agg [.lit (.int .u8 0), .lit (.int .u8 0)]]
/-- One of Go's own tables, pinned by name: the form's constant. -/
def laid_unicode_utf8_first : DataW Unit := Go.Pinned.utf8First

/-- 'tombolalaw10.FreqTells': WHATEVER THE INPUT: true; the input reads as it did. -/
def freqTellsSpec : ChangeSpec := { name := "freqTells", fn := fun _ => fun
  | [d1, d2, d3] => { results := [.lit (.bool true)], args := [d1, d2, d3] }
  | _ => none }
def freqTellsRow : OpenClaim := { program := "ytolfjhfmcgibbaagreatdoor", sum := "1a0692f0e2e4935da18ed615034b91ea6fcf305f44d8f700ea4b1798a6c954ad", func := "tombola/tombolalaw10.FreqTells", spec := "freqTells", inPlace := ["math/bits.Add64", "math/bits.Sub64", "internal/bytealg.IndexByteString", "internal/bytealg.IndexString"], unfollowed := true, recurses := true, named := ["math/bits.divideError", "math/bits.overflowError", "unicode/utf8.first", "unicode/utf8.acceptRanges", "internal/bytealg.MaxLen"], apart := false, laid := [("unicode/utf8.acceptRanges", laid_unicode_utf8_acceptRanges), ("unicode/utf8.first", laid_unicode_utf8_first)] }
def FreqTellsSaid : Prop := freqTellsRow.holds Tryz.pinned (OpenSpec.ofChange freqTellsSpec)

/-- ITS FALSE NEIGHBOUR: 'it returns false'. Refute it at one input. -/
def freqTellsWrong : ChangeSpec := { name := "freqTells", fn := fun _ => fun
  | [d1, d2, d3] => { results := [.lit (.bool false)], args := [d1, d2, d3] }
  | _ => none }
def FreqTellsWrongFalsely : Prop := freqTellsRow.holds Tryz.pinned (OpenSpec.ofChange freqTellsWrong)

/-- 'tombolalaw10.FreqDraws': WHATEVER THE INPUT: true; the input reads as it did. -/
def freqDrawsSpec : ChangeSpec := { name := "freqDraws", fn := fun _ => fun
  | [d1, d2, d3] => { results := [.lit (.bool true)], args := [d1, d2, d3] }
  | _ => none }
def freqDrawsRow : OpenClaim := { program := "ytolfjhfmcgibbaagreatdoor", sum := "1a0692f0e2e4935da18ed615034b91ea6fcf305f44d8f700ea4b1798a6c954ad", func := "tombola/tombolalaw10.FreqDraws", spec := "freqDraws", inPlace := ["math/bits.Add64", "math/bits.Sub64", "internal/bytealg.IndexByteString", "internal/bytealg.IndexString"], unfollowed := true, recurses := true, named := ["math/bits.divideError", "math/bits.overflowError", "unicode/utf8.first", "unicode/utf8.acceptRanges", "internal/bytealg.MaxLen"], apart := false, laid := [("unicode/utf8.acceptRanges", laid_unicode_utf8_acceptRanges), ("unicode/utf8.first", laid_unicode_utf8_first)] }
def FreqDrawsSaid : Prop := freqDrawsRow.holds Tryz.pinned (OpenSpec.ofChange freqDrawsSpec)

/-- ITS FALSE NEIGHBOUR: 'it returns false'. Refute it at one input. -/
def freqDrawsWrong : ChangeSpec := { name := "freqDraws", fn := fun _ => fun
  | [d1, d2, d3] => { results := [.lit (.bool false)], args := [d1, d2, d3] }
  | _ => none }
def FreqDrawsWrongFalsely : Prop := freqDrawsRow.holds Tryz.pinned (OpenSpec.ofChange freqDrawsWrong)

/-- 'tombolalaw10.FreqNames': WHATEVER THE INPUT: true; the input reads as it did. -/
def freqNamesSpec : ChangeSpec := { name := "freqNames", fn := fun _ => fun
  | [] => { results := [.lit (.bool true)], args := [] }
  | _ => none }
def freqNamesRow : OpenClaim := { program := "ytolfjhfmcgibbaagreatdoor", sum := "1a0692f0e2e4935da18ed615034b91ea6fcf305f44d8f700ea4b1798a6c954ad", func := "tombola/tombolalaw10.FreqNames", spec := "freqNames", inPlace := ["math/bits.Add64", "math/bits.Sub64", "internal/bytealg.IndexByteString", "internal/bytealg.IndexString"], unfollowed := true, recurses := true, named := ["math/bits.divideError", "math/bits.overflowError", "unicode/utf8.first", "unicode/utf8.acceptRanges", "internal/bytealg.MaxLen"], apart := false, laid := [("unicode/utf8.acceptRanges", laid_unicode_utf8_acceptRanges), ("unicode/utf8.first", laid_unicode_utf8_first)] }
def FreqNamesSaid : Prop := freqNamesRow.holds Tryz.pinned (OpenSpec.ofChange freqNamesSpec)

/-- ITS FALSE NEIGHBOUR: 'it returns false'. Refute it at one input. -/
def freqNamesWrong : ChangeSpec := { name := "freqNames", fn := fun _ => fun
  | [] => { results := [.lit (.bool false)], args := [] }
  | _ => none }
def FreqNamesWrongFalsely : Prop := freqNamesRow.holds Tryz.pinned (OpenSpec.ofChange freqNamesWrong)

/-- 'tombolalaw10.FreqShares': WHATEVER THE INPUT: true; the input reads as it did. -/
def freqSharesSpec : ChangeSpec := { name := "freqShares", fn := fun _ => fun
  | [d] => { results := [.lit (.bool true)], args := [d] }
  | _ => none }
def freqSharesRow : OpenClaim := { program := "ytolfjhfmcgibbaagreatdoor", sum := "1a0692f0e2e4935da18ed615034b91ea6fcf305f44d8f700ea4b1798a6c954ad", func := "tombola/tombolalaw10.FreqShares", spec := "freqShares", inPlace := ["math/bits.Add64", "math/bits.Sub64", "internal/bytealg.IndexByteString", "internal/bytealg.IndexString"], unfollowed := true, recurses := true, named := ["math/bits.divideError", "math/bits.overflowError", "unicode/utf8.first", "unicode/utf8.acceptRanges", "internal/bytealg.MaxLen"], apart := false, laid := [("unicode/utf8.acceptRanges", laid_unicode_utf8_acceptRanges), ("unicode/utf8.first", laid_unicode_utf8_first)] }
def FreqSharesSaid : Prop := freqSharesRow.holds Tryz.pinned (OpenSpec.ofChange freqSharesSpec)

/-- ITS FALSE NEIGHBOUR: 'it returns false'. Refute it at one input. -/
def freqSharesWrong : ChangeSpec := { name := "freqShares", fn := fun _ => fun
  | [d] => { results := [.lit (.bool false)], args := [d] }
  | _ => none }
def FreqSharesWrongFalsely : Prop := freqSharesRow.holds Tryz.pinned (OpenSpec.ofChange freqSharesWrong)

/-- 'tombolalaw10.FreqTimes': WHATEVER THE INPUT: true; the input reads as it did. -/
def freqTimesSpec : ChangeSpec := { name := "freqTimes", fn := fun _ => fun
  | [d1, d2] => { results := [.lit (.bool true)], args := [d1, d2] }
  | _ => none }
def freqTimesRow : OpenClaim := { program := "ytolfjhfmcgibbaagreatdoor", sum := "1a0692f0e2e4935da18ed615034b91ea6fcf305f44d8f700ea4b1798a6c954ad", func := "tombola/tombolalaw10.FreqTimes", spec := "freqTimes", inPlace := ["math/bits.Add64", "math/bits.Sub64", "internal/bytealg.IndexByteString", "internal/bytealg.IndexString"], unfollowed := true, recurses := true, named := ["math/bits.divideError", "math/bits.overflowError", "unicode/utf8.first", "unicode/utf8.acceptRanges", "internal/bytealg.MaxLen"], apart := false, laid := [("unicode/utf8.acceptRanges", laid_unicode_utf8_acceptRanges), ("unicode/utf8.first", laid_unicode_utf8_first)] }
def FreqTimesSaid : Prop := freqTimesRow.holds Tryz.pinned (OpenSpec.ofChange freqTimesSpec)

/-- ITS FALSE NEIGHBOUR: 'it returns false'. Refute it at one input. -/
def freqTimesWrong : ChangeSpec := { name := "freqTimes", fn := fun _ => fun
  | [d1, d2] => { results := [.lit (.bool false)], args := [d1, d2] }
  | _ => none }
def FreqTimesWrongFalsely : Prop := freqTimesRow.holds Tryz.pinned (OpenSpec.ofChange freqTimesWrong)

/-- 'tombolalaw10.FreqParted': WHATEVER THE INPUT: true; the input reads as it did. -/
def freqPartedSpec : ChangeSpec := { name := "freqParted", fn := fun _ => fun
  | [d1, d2, d3, d4] => { results := [.lit (.bool true)], args := [d1, d2, d3, d4] }
  | _ => none }
def freqPartedRow : OpenClaim := { program := "ytolfjhfmcgibbaagreatdoor", sum := "1a0692f0e2e4935da18ed615034b91ea6fcf305f44d8f700ea4b1798a6c954ad", func := "tombola/tombolalaw10.FreqParted", spec := "freqParted", inPlace := ["math/bits.Add64", "math/bits.Sub64", "internal/bytealg.IndexByteString", "internal/bytealg.IndexString"], unfollowed := true, recurses := true, named := ["math/bits.divideError", "math/bits.overflowError", "unicode/utf8.first", "unicode/utf8.acceptRanges", "internal/bytealg.MaxLen"], apart := false, laid := [("unicode/utf8.acceptRanges", laid_unicode_utf8_acceptRanges), ("unicode/utf8.first", laid_unicode_utf8_first)] }
def FreqPartedSaid : Prop := freqPartedRow.holds Tryz.pinned (OpenSpec.ofChange freqPartedSpec)

/-- ITS FALSE NEIGHBOUR: 'it returns false'. Refute it at one input. -/
def freqPartedWrong : ChangeSpec := { name := "freqParted", fn := fun _ => fun
  | [d1, d2, d3, d4] => { results := [.lit (.bool false)], args := [d1, d2, d3, d4] }
  | _ => none }
def FreqPartedWrongFalsely : Prop := freqPartedRow.holds Tryz.pinned (OpenSpec.ofChange freqPartedWrong)

/-- 'tombolalaw10.FreqCost': WHATEVER THE INPUT: true; the input reads as it did. -/
def freqCostSpec : ChangeSpec := { name := "freqCost", fn := fun _ => fun
  | [d1, d2] => { results := [.lit (.bool true)], args := [d1, d2] }
  | _ => none }
def freqCostRow : OpenClaim := { program := "ytolfjhfmcgibbaagreatdoor", sum := "1a0692f0e2e4935da18ed615034b91ea6fcf305f44d8f700ea4b1798a6c954ad", func := "tombola/tombolalaw10.FreqCost", spec := "freqCost", inPlace := ["internal/bytealg.IndexByteString", "internal/bytealg.IndexString", "math/bits.Add64", "math/bits.Sub64"], unfollowed := true, recurses := true, named := ["unicode/utf8.first", "unicode/utf8.acceptRanges", "math/bits.divideError", "math/bits.overflowError", "internal/bytealg.MaxLen"], apart := false, laid := [("unicode/utf8.acceptRanges", laid_unicode_utf8_acceptRanges), ("unicode/utf8.first", laid_unicode_utf8_first)] }
def FreqCostSaid : Prop := freqCostRow.holds Tryz.pinned (OpenSpec.ofChange freqCostSpec)

/-- ITS FALSE NEIGHBOUR: 'it returns false'. Refute it at one input. -/
def freqCostWrong : ChangeSpec := { name := "freqCost", fn := fun _ => fun
  | [d1, d2] => { results := [.lit (.bool false)], args := [d1, d2] }
  | _ => none }
def FreqCostWrongFalsely : Prop := freqCostRow.holds Tryz.pinned (OpenSpec.ofChange freqCostWrong)

/- THE SECOND FORM. 'bulk': how many values and letters a reading holds, each counted each time it is reached (what is shared counts as often as it is met; a slice's spare places count too). A statement '..UptoSaid' is the law's where the arguments, and the package variables that the reading takes, are together of bulk at most 1048576: NARROWER than '..Said'. Prove '..Said' where nothing that the law and all that it calls make is longer than what came in: it says more and counts as full. Else prove '..UptoSaid'. A law counts once. -/
mutual
def uptoBulk {H : Type} : DataW H → Nat
  | .lit (.string bytes) => bytes.length + 1
  | .lit _ => 1
  | .nil => 1
  | .ptr d => uptoBulk d + 1
  | .slice elems spare => uptoBulkAll elems + uptoBulkAll spare + 1
  | .agg parts => uptoBulkAll parts + 1
  | .iface _ d => uptoBulk d + 1
  | .map entries => uptoBulkEntries entries + 1
  | .held _ => 1
def uptoBulkAll {H : Type} : List (DataW H) → Nat
  | [] => 0
  | d :: r => uptoBulk d + uptoBulkAll r
def uptoBulkEntries {H : Type} : List (Lit × DataW H) → Nat
  | [] => 0
  | x :: r => uptoBulkEntry x + uptoBulkEntries r
def uptoBulkEntry {H : Type} : Lit × DataW H → Nat
  | (.string bytes, d) => bytes.length + uptoBulk d + 1
  | (_, d) => uptoBulk d + 1
 end
def uptoSmall : (H : Type) → List (DataW H) → Bool := fun _ ds => decide (uptoBulkAll ds ≤ 1048576)
def OpenSpec.upto (s : _root_.Go.ChangeSpec) : _root_.Go.OpenSpec := { _root_.Go.OpenSpec.ofChange s with cond := some uptoSmall }

/-- 'tombolalaw10.FreqTells', WHERE WHAT IT READS IS OF BULK AT MOST 1048576: true; the input reads as it did. -/
def freqTellsUptoRow : OpenClaim := { program := "ytolfjhfmcgibbaagreatdoor", sum := "1a0692f0e2e4935da18ed615034b91ea6fcf305f44d8f700ea4b1798a6c954ad", func := "tombola/tombolalaw10.FreqTells", spec := "freqTells", inPlace := ["math/bits.Add64", "math/bits.Sub64", "internal/bytealg.IndexByteString", "internal/bytealg.IndexString"], unfollowed := true, recurses := true, named := ["math/bits.divideError", "math/bits.overflowError", "unicode/utf8.first", "unicode/utf8.acceptRanges", "internal/bytealg.MaxLen"], apart := false, laid := [("unicode/utf8.acceptRanges", laid_unicode_utf8_acceptRanges), ("unicode/utf8.first", laid_unicode_utf8_first)], narrowed := true }
def FreqTellsUptoSaid : Prop := freqTellsUptoRow.holds Tryz.pinned (OpenSpec.upto freqTellsSpec)

/-- 'tombolalaw10.FreqDraws', WHERE WHAT IT READS IS OF BULK AT MOST 1048576: true; the input reads as it did. -/
def freqDrawsUptoRow : OpenClaim := { program := "ytolfjhfmcgibbaagreatdoor", sum := "1a0692f0e2e4935da18ed615034b91ea6fcf305f44d8f700ea4b1798a6c954ad", func := "tombola/tombolalaw10.FreqDraws", spec := "freqDraws", inPlace := ["math/bits.Add64", "math/bits.Sub64", "internal/bytealg.IndexByteString", "internal/bytealg.IndexString"], unfollowed := true, recurses := true, named := ["math/bits.divideError", "math/bits.overflowError", "unicode/utf8.first", "unicode/utf8.acceptRanges", "internal/bytealg.MaxLen"], apart := false, laid := [("unicode/utf8.acceptRanges", laid_unicode_utf8_acceptRanges), ("unicode/utf8.first", laid_unicode_utf8_first)], narrowed := true }
def FreqDrawsUptoSaid : Prop := freqDrawsUptoRow.holds Tryz.pinned (OpenSpec.upto freqDrawsSpec)

/-- 'tombolalaw10.FreqNames', WHERE WHAT IT READS IS OF BULK AT MOST 1048576: true; the input reads as it did. -/
def freqNamesUptoRow : OpenClaim := { program := "ytolfjhfmcgibbaagreatdoor", sum := "1a0692f0e2e4935da18ed615034b91ea6fcf305f44d8f700ea4b1798a6c954ad", func := "tombola/tombolalaw10.FreqNames", spec := "freqNames", inPlace := ["math/bits.Add64", "math/bits.Sub64", "internal/bytealg.IndexByteString", "internal/bytealg.IndexString"], unfollowed := true, recurses := true, named := ["math/bits.divideError", "math/bits.overflowError", "unicode/utf8.first", "unicode/utf8.acceptRanges", "internal/bytealg.MaxLen"], apart := false, laid := [("unicode/utf8.acceptRanges", laid_unicode_utf8_acceptRanges), ("unicode/utf8.first", laid_unicode_utf8_first)], narrowed := true }
def FreqNamesUptoSaid : Prop := freqNamesUptoRow.holds Tryz.pinned (OpenSpec.upto freqNamesSpec)

/-- 'tombolalaw10.FreqShares', WHERE WHAT IT READS IS OF BULK AT MOST 1048576: true; the input reads as it did. -/
def freqSharesUptoRow : OpenClaim := { program := "ytolfjhfmcgibbaagreatdoor", sum := "1a0692f0e2e4935da18ed615034b91ea6fcf305f44d8f700ea4b1798a6c954ad", func := "tombola/tombolalaw10.FreqShares", spec := "freqShares", inPlace := ["math/bits.Add64", "math/bits.Sub64", "internal/bytealg.IndexByteString", "internal/bytealg.IndexString"], unfollowed := true, recurses := true, named := ["math/bits.divideError", "math/bits.overflowError", "unicode/utf8.first", "unicode/utf8.acceptRanges", "internal/bytealg.MaxLen"], apart := false, laid := [("unicode/utf8.acceptRanges", laid_unicode_utf8_acceptRanges), ("unicode/utf8.first", laid_unicode_utf8_first)], narrowed := true }
def FreqSharesUptoSaid : Prop := freqSharesUptoRow.holds Tryz.pinned (OpenSpec.upto freqSharesSpec)

/-- 'tombolalaw10.FreqTimes', WHERE WHAT IT READS IS OF BULK AT MOST 1048576: true; the input reads as it did. -/
def freqTimesUptoRow : OpenClaim := { program := "ytolfjhfmcgibbaagreatdoor", sum := "1a0692f0e2e4935da18ed615034b91ea6fcf305f44d8f700ea4b1798a6c954ad", func := "tombola/tombolalaw10.FreqTimes", spec := "freqTimes", inPlace := ["math/bits.Add64", "math/bits.Sub64", "internal/bytealg.IndexByteString", "internal/bytealg.IndexString"], unfollowed := true, recurses := true, named := ["math/bits.divideError", "math/bits.overflowError", "unicode/utf8.first", "unicode/utf8.acceptRanges", "internal/bytealg.MaxLen"], apart := false, laid := [("unicode/utf8.acceptRanges", laid_unicode_utf8_acceptRanges), ("unicode/utf8.first", laid_unicode_utf8_first)], narrowed := true }
def FreqTimesUptoSaid : Prop := freqTimesUptoRow.holds Tryz.pinned (OpenSpec.upto freqTimesSpec)

/-- 'tombolalaw10.FreqParted', WHERE WHAT IT READS IS OF BULK AT MOST 1048576: true; the input reads as it did. -/
def freqPartedUptoRow : OpenClaim := { program := "ytolfjhfmcgibbaagreatdoor", sum := "1a0692f0e2e4935da18ed615034b91ea6fcf305f44d8f700ea4b1798a6c954ad", func := "tombola/tombolalaw10.FreqParted", spec := "freqParted", inPlace := ["math/bits.Add64", "math/bits.Sub64", "internal/bytealg.IndexByteString", "internal/bytealg.IndexString"], unfollowed := true, recurses := true, named := ["math/bits.divideError", "math/bits.overflowError", "unicode/utf8.first", "unicode/utf8.acceptRanges", "internal/bytealg.MaxLen"], apart := false, laid := [("unicode/utf8.acceptRanges", laid_unicode_utf8_acceptRanges), ("unicode/utf8.first", laid_unicode_utf8_first)], narrowed := true }
def FreqPartedUptoSaid : Prop := freqPartedUptoRow.holds Tryz.pinned (OpenSpec.upto freqPartedSpec)

/-- 'tombolalaw10.FreqCost', WHERE WHAT IT READS IS OF BULK AT MOST 1048576: true; the input reads as it did. -/
def freqCostUptoRow : OpenClaim := { program := "ytolfjhfmcgibbaagreatdoor", sum := "1a0692f0e2e4935da18ed615034b91ea6fcf305f44d8f700ea4b1798a6c954ad", func := "tombola/tombolalaw10.FreqCost", spec := "freqCost", inPlace := ["internal/bytealg.IndexByteString", "internal/bytealg.IndexString", "math/bits.Add64", "math/bits.Sub64"], unfollowed := true, recurses := true, named := ["unicode/utf8.first", "unicode/utf8.acceptRanges", "math/bits.divideError", "math/bits.overflowError", "internal/bytealg.MaxLen"], apart := false, laid := [("unicode/utf8.acceptRanges", laid_unicode_utf8_acceptRanges), ("unicode/utf8.first", laid_unicode_utf8_first)], narrowed := true }
def FreqCostUptoSaid : Prop := freqCostUptoRow.holds Tryz.pinned (OpenSpec.upto freqCostSpec)

end Rows
end Go.Proofs.YtolfjhfmcgibbaaGreatDoor
