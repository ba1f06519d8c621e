/- What the program's Width answers over this translation. -/
import Derived.Test.YtfdpddlefobcpaaGreatDoorBelMath
import Derived.Test.YtfdpddlefobcpaaGreatDoorGMem
namespace Go.Proofs.YtfdpddlefobcpaaGreatDoor
open Go.RowKit Go.Shelf
set_option linter.unusedVariables false
set_option linter.unusedSimpArgs false
set_option maxRecDepth 20000
open N
theorem width_any (w : World) (m : Nat) (hm : m < 18446744073709551616) :
    Calls Tryz.prog 50 #[.int .u64 (m : Nat)] w fun e w' => e = .returned (.int .i64 (wd m : Nat)) ∧ Below w.heap.size w w' := by
  by_cases h0 : m = 0
  · subst h0
    go_enter Tryz.func50, Tryz.ntmps50
    go_wp2
    go_ret
    exact ⟨rfl, Below.refl _ _⟩
  · have hne : ¬ (m : Int) = 0 := by omega
    have hw : IntKind.u64.wrap ((m : Int) - 1) = ((m - 1 : Nat) : Int) := by rw [IntKind.wrap_u64]; omega
    have hwd : W.Wd ((m - 1 : Nat) : Int) := by unfold W.Wd; omega
    have HL := Lib.hid (fun X : World => len_any ((m - 1 : Nat) : Int) hwd X)
    clear hwd
    clear h0 hm
    go_enter Tryz.func50, Tryz.ntmps50
    go_wp2_with (go_at_call 75; refine (HL.out _).mono ?_; rintro e w1 ⟨rfl, rfl⟩)
    go_ret
    exact ⟨rfl, Below.refl _ _⟩
end Go.Proofs.YtfdpddlefobcpaaGreatDoor
