/- The bytes of a string of bits, place by place. No function of the program. -/
import Derived.Test.YtfdpddlefobcpaaGreatDoorGMem
import Derived.Test.YtfdpddlefobcpaaGreatDoorBitMath
namespace Go.Proofs.YtfdpddlefobcpaaGreatDoor
open Go.RowKit
set_option linter.unusedVariables false
set_option linter.unusedSimpArgs false
open N
namespace N
theorem bitsL_succ (l : List UInt8) (k : Nat) (h : k < l.length) : bitsL (l.take (k + 1)) = (bitsL (l.take k) && isbit (l.getD k 0)) := by
  rw [List.take_succ_eq_append_getElem h, bitsL_append, List.getD_eq_getElem?_getD, List.getElem?_eq_getElem h]
  simp [bitsL]
theorem bitsL_bad {l : List UInt8} {k : Nat} (h : k < l.length) (hb : isbit (l.getD k 0) = false) : bitsL l = false := by
  have h1 := bitsL_succ l k h
  rw [hb, Bool.and_false] at h1
  cases e : bitsL l with
  | false => rfl
  | true => rw [bitsL_take e] at h1; cases h1
theorem bat_ne (l : List UInt8) (k : Nat) (c : UInt8) : (bat l k != (c.toNat : Int)) = (l.getD k 0 != c) := by
  unfold bat
  generalize l.getD k 0 = d
  rw [Bool.eq_iff_iff]
  simp only [bne_iff_ne, ne_eq]
  exact ⟨fun h e => h (by rw [e]), fun h e => h (UInt8.toNat_inj.1 (by omega))⟩
end N
theorem idx_run (l : List UInt8) (k : Nat) (hk : k < l.length) (W : World) : (Instr.index 9 (.string ⟨l.toArray⟩) (.int .i64 (k : Int))).run Tryz.prog W = .ok (.int .u8 (bat l k)) W := str_at l 9 strU .i64 k hk W
end Go.Proofs.YtfdpddlefobcpaaGreatDoor
