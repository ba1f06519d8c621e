/- What the calls of the program's layer 7 answer, over this translation: bit strings as lists of bytes. -/
import Derived.Test.YtfdpddlefobcpaaGreatDoorGMem
import Derived.Test.YtfdpddlefobcpaaGreatDoorShelf
import Derived.Test.YtfdpddlefobcpaaGreatDoorBitMath
import Derived.Test.YtfdpddlefobcpaaGreatDoorIter
import Derived.Shelf.Strings.SlTrimAscii
import Derived.Deep.RegionWith
import Derived.Deep.RegionHeld3
namespace Go.Proofs.YtfdpddlefobcpaaGreatDoor
open Go.RowKit Go.Shelf
set_option linter.unusedVariables false
set_option linter.unusedSimpArgs false
set_option maxRecDepth 20000
open N
theorem reti {a b : Int} (h : a = b) : Ending.returned (.int .i64 a) = .returned (.int .i64 b) := by rw [h]
theorem btrim_any (w : World) (l : List UInt8) (hl : l.length ≤ maxLen) :
    Calls Tryz.prog 48 #[.string ⟨l.toArray⟩, .string ⟨#[48, 49]⟩] w fun e w' => ∃ m : List UInt8, e = .returned (.string ⟨m.toArray⟩) ∧ m.isEmpty = bitsL l ∧ Below w.heap.size w w' := by
  refine (Any.strings_Trim_laid Tryz.lays160 (by kernel_rfl) ⟨l.toArray⟩ ⟨#[48, 49]⟩ w (by unfold maxLen at hl; exact (by omega : l.length ≤ 9223372036854775807)) (by decide) (ascii_of_all (by decide))).mono ?_
  rintro e w' ⟨rfl, hb⟩
  exact ⟨_, rfl, by rw [← btrim_nil]; cases Lib.trimS l [48, 49] <;> rfl, hb⟩
theorem bis_any (w : World) (l : List UInt8) (hl : l.length ≤ maxLen) :
    Calls Tryz.prog 26 #[.string ⟨l.toArray⟩] w fun e w' => e = .returned (.bool (isB l)) ∧ Below w.heap.size w w' := by
  have HL := Lib.hid hl
  by_cases h : l.length ≤ 1024
  · have HI : isB l = bitsL l := by unfold isB; simp [h]
    rw [HI]
    clear HI
    go_enter Tryz.func26, Tryz.ntmps26
    go_wp2_with (go_at_call 48; refine (btrim_any _ l HL.out).mono ?_; rintro e w1 ⟨m, rfl, hm, hb⟩; have HB := Lib.hid hb; have HM := Lib.hid hm; clear hb hm)
    go_ret
    exact ⟨retb HM.out, HB.out⟩
  · have HI : isB l = false := by unfold isB; simp [h]
    rw [HI]
    clear HI
    go_enter Tryz.func26, Tryz.ntmps26
    go_wp2
    go_ret
    exact ⟨rfl, Below.refl _ _⟩
theorem cmpN_int (a b : Nat) (w : World) :
    Calls Tryz.prog 141 #[.int .i64 a, .int .i64 b] w fun e w' => e = .returned (.int .i64 (cmpN a b)) ∧ w' = w := by
  refine (Tryz.cmp_Compare_int a b w).mono ?_
  rintro e w' ⟨rfl, rfl⟩
  refine ⟨?_, rfl⟩
  unfold cmpN Lib.compareInt
  simp only [Int.ofNat_lt]
theorem numB_take (l : List UInt8) (k : Nat) (h : k < l.length) : numB (l.take (k + 1)) = 2 * numB (l.take k) + ((l.getD k 0).toNat - 48) := by
  rw [List.take_succ_eq_append_getElem h, numB_snoc, List.getD_eq_getElem?_getD, List.getElem?_eq_getElem h]; rfl
theorem bit_at {l : List UInt8} (hb : bitsL l = true) (k : Nat) (h : k < l.length) : (bat l k = 48 ∧ l.getD k 0 = 48) ∨ (bat l k = 49 ∧ l.getD k 0 = 49) := by
  have hm : l.getD k 0 ∈ l := by rw [List.getD_eq_getElem?_getD, List.getElem?_eq_getElem h]; exact List.getElem_mem h
  unfold bat
  rcases bitsL_iff.1 hb _ hm with e | e
  · left; exact ⟨by rw [e]; rfl, e⟩
  · right; exact ⟨by rw [e]; rfl, e⟩
theorem step_num {l : List UInt8} (hb : bitsL l = true) (hl : l.length ≤ 64) (k : Nat) (h : k < l.length) :
    bits .or .u64 (IntKind.u64.wrap (((numB (l.take k) : Nat) : Int) * 2)) ((bat l k - 48) % 256) = ((numB (l.take (k + 1)) : Nat) : Int) := by
  have h1 : numB (l.take k) < 2 ^ 63 := by
    have := numB_lt (bitsL_take hb k)
    rw [List.length_take] at this
    exact Nat.lt_of_lt_of_le this (Nat.pow_le_pow_right (by decide) (by omega))
  rw [numB_take l k h]
  obtain ⟨n, hn⟩ : ∃ n, numB (l.take k) = n := ⟨_, rfl⟩
  rw [hn] at h1 ⊢
  have hw : IntKind.u64.wrap ((n : Int) * 2) = ((n * 2 : Nat) : Int) := by rw [IntKind.wrap_u64]; omega
  rw [hw]
  obtain ⟨b, hb2, e1, e2⟩ : ∃ b : Nat, b < 2 ∧ (bat l k - 48) % 256 = (b : Int) ∧ (l.getD k 0).toNat - 48 = b := by
    rcases bit_at hb k h with ⟨e, e'⟩ | ⟨e, e'⟩
    · exact ⟨0, by omega, by rw [e]; rfl, by rw [e']; rfl⟩
    · exact ⟨1, by omega, by rw [e]; rfl, by rw [e']; rfl⟩
  rw [e1, e2, bits_or_u64_nat _ _ (by omega) (by omega), Nat.or_comm, show n * 2 = n * 2 ^ 1 by omega, W.nat_or n b 1 (by omega)]
  omega
namespace N
/-- what Number answers -/
def nuV (l : List UInt8) : Int := if isB l = true ∧ l.length ≤ 64 then ((numB l : Nat) : Int) else 0
def nuE (l : List UInt8) : Int := if isB l = true then (if l.length ≤ 64 then 0 else 5) else 3
end N
theorem cast_div (x n : Nat) : ((x : Nat) : Int) / 2 ^ n = ((x / 2 ^ n : Nat) : Int) := by
  rw [Int.natCast_ediv, W.cast_pow]
theorem of_bit (x k : Nat) (hx : x < 18446744073709551616) : (48 + bits .and .u64 (((x : Nat) : Int) / 2 ^ k) 1) % 256 = (((bitOf (x / 2 ^ k)).toNat : Nat) : Int) := by
  have h1 : x / 2 ^ k < 18446744073709551616 := Nat.lt_of_le_of_lt (Nat.div_le_self _ _) hx
  have h2 := bits_and_u64_nat (x / 2 ^ k) 1 h1 (by decide)
  rw [cast_div, bitOf_nat]
  rw [show ((1 : Nat) : Int) = 1 from rfl] at h2
  rw [h2, Nat.and_one_is_mod]
  omega
theorem of_step (n k x : Nat) (h : k < n) : (List.replicate (n - k) (0 : UInt8) ++ ofB k x).set (n - 1 - k) (bitOf (x / 2 ^ k)) = List.replicate (n - (k + 1)) 0 ++ ofB (k + 1) x := by
  rw [ofB_front, show n - k = (n - (k + 1)) + 1 by omega, List.replicate_succ', List.append_assoc, List.set_append_right _ _ (by simp; omega), List.length_replicate,
    show n - 1 - k - (n - (k + 1)) = 0 by omega]
  rfl
namespace N
/-- what Of answers -/
def ofFits (x n : Int) : Prop := 0 ≤ n ∧ n ≤ 64 ∧ x < 2 ^ n.toNat
instance (x n : Int) : Decidable (ofFits x n) := by unfold ofFits; infer_instance
def ofV (x n : Int) : List UInt8 := if ofFits x n then ofB n.toNat x.toNat else []
def ofE (x n : Int) : Int := if ofFits x n then 0 else 1
end N
end Go.Proofs.YtfdpddlefobcpaaGreatDoor
