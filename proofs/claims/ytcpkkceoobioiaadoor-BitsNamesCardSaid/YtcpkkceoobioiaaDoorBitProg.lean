/- What the calls of the program's layer 7 answer, over this translation: bit strings as lists of bytes. -/
import Derived.Test.YtcpkkceoobioiaaDoorGMem
import Derived.Test.YtcpkkceoobioiaaDoorShelf
import Derived.Test.YtcpkkceoobioiaaDoorBitMath
import Derived.Test.YtcpkkceoobioiaaDoorIter
import Derived.Shelf.Strings.SlTrimAscii
import Derived.Deep.RegionWith
import Derived.Deep.RegionHeld3
namespace Go.Proofs.YtcpkkceoobioiaaDoor
open Go.RowKit Go.Shelf
set_option linter.unusedVariables false
set_option maxRecDepth 20000
open N
theorem reti {a b : Int} (h : a = b) : Ending.returned (.int .i64 a) = .returned (.int .i64 b) := by rw [h]
theorem trim_any (w : World) (l : List UInt8) (hl : l.length ≤ maxLen) :
    Calls Tryd.prog 33 #[.string ⟨l.toArray⟩, .string ⟨#[48, 49]⟩] w fun e w' => ∃ m : List UInt8, e = .returned (.string ⟨m.toArray⟩) ∧ m.isEmpty = bitsL l ∧ Below w.heap.size w w' := by
  refine (Any.strings_Trim_laid Tryd.lays160 (by kernel_rfl) ⟨l.toArray⟩ ⟨#[48, 49]⟩ w (by unfold maxLen at hl; exact (by omega : l.length ≤ 9223372036854775807)) (by decide) (ascii_of_all (by decide))).mono ?_
  rintro e w' ⟨rfl, hb⟩
  exact ⟨_, rfl, by rw [← trim_nil]; cases Lib.trimS l [48, 49] <;> rfl, hb⟩
theorem is_any (w : World) (l : List UInt8) (hl : l.length ≤ maxLen) :
    Calls Tryd.prog 18 #[.string ⟨l.toArray⟩] w fun e w' => e = .returned (.bool (isB l)) ∧ Below w.heap.size w w' := by
  have HL := Lib.hid hl
  by_cases h : l.length ≤ 1024
  · have HI : isB l = bitsL l := by unfold isB; simp [h]
    rw [HI]
    clear HI
    go_enter Tryd.func18, Tryd.ntmps18
    go_wp2_with (go_at_call 33; refine (trim_any _ l HL.out).mono ?_; rintro e w1 ⟨m, rfl, hm, hb⟩; have HB := Lib.hid hb; have HM := Lib.hid hm; clear hb hm)
    go_ret
    exact ⟨retb HM.out, HB.out⟩
  · have HI : isB l = false := by unfold isB; simp [h]
    rw [HI]
    clear HI
    go_enter Tryd.func18, Tryd.ntmps18
    go_wp2
    go_ret
    exact ⟨rfl, Below.refl _ _⟩
theorem cmpN_int (a b : Nat) (w : World) :
    Calls Tryd.prog 34 #[.int .i64 a, .int .i64 b] w fun e w' => e = .returned (.int .i64 (cmpN a b)) ∧ w' = w := by
  refine (Tryd.cmp_Compare_int a b w).mono ?_
  rintro e w' ⟨rfl, rfl⟩
  refine ⟨?_, rfl⟩
  unfold cmpN Lib.compareInt
  simp only [Int.ofNat_lt]
theorem cmp_any (w : World) (a b : List UInt8) (ha : a.length ≤ maxLen) (hb : b.length ≤ maxLen) :
    Calls Tryd.prog 20 #[.string ⟨a.toArray⟩, .string ⟨b.toArray⟩] w fun e w' => e = .returned (.int .i64 (cmpB a b)) ∧ w' = w := by
  have HC : ∀ W : World, Calls Tryd.prog 35 #[.string ⟨a.toArray⟩, .string ⟨b.toArray⟩] W fun e w' => e = .returned (.int .i64 (Lib.compareBytes a b)) ∧ w' = W := fun W => Tryd.strings_Compare ⟨a.toArray⟩ ⟨b.toArray⟩ W
  by_cases h : a.length = b.length
  · have HE : cmpB a b = Lib.compareBytes a b := by unfold cmpB; rw [if_pos h]
    rw [HE]
    clear HE
    have h1 : (((a.length : Nat) : Int) != ((b.length : Nat) : Int)) = false := by simp [h]
    have HC := Lib.hid HC
    clear h
    go_enter Tryd.func20, Tryd.ntmps20
    go_wp2_with (go_at_call 35; refine (HC.out _).mono ?_; rintro e w1 ⟨rfl, rfl⟩)
    go_ret
    exact ⟨rfl, rfl⟩
  · have HE : cmpB a b = cmpN a.length b.length := by unfold cmpB; rw [if_neg h]
    rw [HE]
    clear HE
    have h1 : (((a.length : Nat) : Int) != ((b.length : Nat) : Int)) = true := by simp; omega
    clear HC h
    go_enter Tryd.func20, Tryd.ntmps20
    go_wp2_with (go_at_call 34; refine (cmpN_int _ _ _).mono ?_; rintro e w1 ⟨rfl, rfl⟩)
    go_ret
    exact ⟨rfl, rfl⟩
theorem zeros_any (w : World) (n : Nat) (hn : n ≤ 1099511627776) :
    Calls Tryd.prog 37 #[.int .i64 n] w fun e w' => e = .returned (.string ⟨(List.replicate n 48).toArray⟩) ∧ Below w.heap.size w w' := by
  have HR : ∀ W : World, Calls Tryd.prog 42 #[.string ⟨#[48]⟩, .int .i64 n] W fun e w' => e = .returned (.string ⟨(List.replicate n 48).toArray⟩) ∧ Below W.heap.size W w' := fun W => by
    have := Tryd.strings_Repeat ⟨#[48]⟩ n W (by omega) (by show 1 * n ≤ _; omega)
    rwa [show Lib.repeatL (ByteArray.mk #[48]).data.toList n = List.replicate n 48 from repeatL_one 48 n] at this
  have HR := Lib.hid HR
  go_enter Tryd.func37, Tryd.ntmps37
  go_wp2_with (go_at_call 42; refine (HR.out _).mono ?_; rintro e w1 ⟨rfl, hb⟩; have HB := Lib.hid hb; clear hb)
  go_ret
  exact ⟨rfl, HB.out⟩
theorem part_any (w : World) (l : List UInt8) (hl : l.length ≤ maxLen) (a n : Int) (wa : (Lit.int .i64 a).wf = true) (wn : (Lit.int .i64 n).wf = true) :
    Calls Tryd.prog 39 #[.string ⟨l.toArray⟩, .int .i64 a, .int .i64 n] w fun e w' => e = .returned (.int .i64 (partE l a n)) ∧ Below w.heap.size w w' := by
  have HI := Lib.hid (is_any w l hl)
  have hl' : l.length ≤ 9223372036854775807 := by unfold maxLen at hl; omega
  have ba := bounds_i64 wa
  have bn := bounds_i64 wn
  by_cases hB : isB l = true
  · rw [hB] at HI
    have HE : partE l a n = if isPart l a n then 0 else 1 := by unfold partE; rw [hB]; rfl
    rw [HE]
    have HB' := Lib.hid hB
    clear HE hB
    by_cases h1 : a < 0
    · rw [if_neg (by unfold isPart; omega)]
      go_enter Tryd.func39, Tryd.ntmps39
      go_wp2_with (go_at_call 18; refine HI.out.mono ?_; rintro e w1 ⟨rfl, hb⟩; have HB := Lib.hid hb; clear hb)
      go_ret
      exact ⟨rfl, HB.out⟩
    · by_cases h2 : n < 1
      · rw [if_neg (by unfold isPart; omega)]
        go_enter Tryd.func39, Tryd.ntmps39
        go_wp2_with (go_at_call 18; refine HI.out.mono ?_; rintro e w1 ⟨rfl, hb⟩; have HB := Lib.hid hb; clear hb)
        go_ret
        exact ⟨rfl, HB.out⟩
      · have hs : IntKind.i64.wrap ((l.length : Int) - n) = (l.length : Int) - n := by rw [IntKind.wrap_i64]; omega
        by_cases h3 : (l.length : Int) - n < a
        · rw [if_neg (by unfold isPart; omega)]
          go_enter Tryd.func39, Tryd.ntmps39
          go_wp2_with (go_at_call 18; refine HI.out.mono ?_; rintro e w1 ⟨rfl, hb⟩; have HB := Lib.hid hb; clear hb)
          go_ret
          exact ⟨rfl, HB.out⟩
        · rw [if_pos (by unfold isPart; omega)]
          go_enter Tryd.func39, Tryd.ntmps39
          go_wp2_with (go_at_call 18; refine HI.out.mono ?_; rintro e w1 ⟨rfl, hb⟩; have HB := Lib.hid hb; clear hb)
          go_ret
          exact ⟨rfl, HB.out⟩
  · have hB' : isB l = false := by simpa using hB
    have HE : partE l a n = 3 := by unfold partE; rw [if_neg hB]
    rw [HE]
    rw [hB'] at HI
    clear HE hB hB'
    go_enter Tryd.func39, Tryd.ntmps39
    go_wp2_with (go_at_call 18; refine HI.out.mono ?_; rintro e w1 ⟨rfl, hb⟩; have HB := Lib.hid hb; clear hb)
    go_ret
    exact ⟨rfl, HB.out⟩
theorem numB_take (l : List UInt8) (k : Nat) (h : k < l.length) : numB (l.take (k + 1)) = 2 * numB (l.take k) + ((l.getD k 0).toNat - 48) := by
  rw [List.take_succ_eq_append_getElem h, numB_snoc, List.getD_eq_getElem?_getD, List.getElem?_eq_getElem h]; rfl
theorem bit_at {l : List UInt8} (hb : bitsL l = true) (k : Nat) (h : k < l.length) : (bat l k = 48 ∧ l.getD k 0 = 48) ∨ (bat l k = 49 ∧ l.getD k 0 = 49) := by
  have hm : l.getD k 0 ∈ l := by rw [List.getD_eq_getElem?_getD, List.getElem?_eq_getElem h]; exact List.getElem_mem h
  unfold bat
  rcases bitsL_iff.1 hb _ hm with e | e
  · left; exact ⟨by rw [e]; rfl, e⟩
  · right; exact ⟨by rw [e]; rfl, e⟩
theorem step_num {l : List UInt8} (hb : bitsL l = true) (hl : l.length ≤ 64) (k : Nat) (h : k < l.length) :
    bits .or .u64 (IntKind.u64.wrap (((numB (l.take k) : Nat) : Int) * 2)) ((bat l k - 48) % 256) = ((numB (l.take (k + 1)) : Nat) : Int) := by
  have h1 : numB (l.take k) < 2 ^ 63 := by
    have := numB_lt (bitsL_take hb k)
    rw [List.length_take] at this
    exact Nat.lt_of_lt_of_le this (Nat.pow_le_pow_right (by decide) (by omega))
  rw [numB_take l k h]
  obtain ⟨n, hn⟩ : ∃ n, numB (l.take k) = n := ⟨_, rfl⟩
  rw [hn] at h1 ⊢
  have hw : IntKind.u64.wrap ((n : Int) * 2) = ((n * 2 : Nat) : Int) := by rw [IntKind.wrap_u64]; omega
  rw [hw]
  obtain ⟨b, hb2, e1, e2⟩ : ∃ b : Nat, b < 2 ∧ (bat l k - 48) % 256 = (b : Int) ∧ (l.getD k 0).toNat - 48 = b := by
    rcases bit_at hb k h with ⟨e, e'⟩ | ⟨e, e'⟩
    · exact ⟨0, by omega, by rw [e]; rfl, by rw [e']; rfl⟩
    · exact ⟨1, by omega, by rw [e]; rfl, by rw [e']; rfl⟩
  rw [e1, e2, bits_or_u64_nat _ _ (by omega) (by omega), Nat.or_comm, show n * 2 = n * 2 ^ 1 by omega, W.nat_or n b 1 (by omega)]
  omega
theorem num_ok (w : World) (l : List UInt8) (hb : bitsL l = true) (hl : l.length ≤ 64) :
    Calls Tryd.prog 14 #[.string ⟨l.toArray⟩] w fun e w' => e = .returned (.tuple #[.int .u64 (numB l : Nat), .int .i64 0]) ∧ Below w.heap.size w w' := by
  have HI := Lib.hid (is_any w l (by unfold maxLen; omega))
  have hB : isB l = true := by unfold isB; rw [hb]; simp; omega
  rw [hB] at HI
  clear hB
  have HBB := Lib.hid hb
  clear hb
  have hidx : ∀ (k : Nat), k < l.length → ∀ W : World, (Instr.index 9 (.string ⟨l.toArray⟩) (.int .i64 (k : Int))).run Tryd.prog W = .ok (.int .u8 (bat l k)) W := fun k hk W => str_at l 9 strU .i64 k hk W
  have HX := Lib.hid hidx
  clear hidx
  go_enter Tryd.func14, Tryd.ntmps14
  go_wp2_with (go_at_call 18; refine HI.out.mono ?_; rintro e w1 ⟨rfl, hb⟩; have HB := Lib.hid hb; clear hb)
  go_loop [4, 14] (fun n i => ∃ k : Nat, k ≤ l.length ∧ i = .int .i64 k ∧ n = .int .u64 (numB (l.take k) : Nat)) (fun _ i => l.length - (intOf i).toNat)
  case atStart => exact ⟨0, by omega, rfl, rfl⟩
  case round =>
    obtain ⟨k, hk, rfl, rfl⟩ := hrel
    by_cases hlt : k < l.length
    · have hx := HX.out k hlt
      have hs := Lib.hid (step_num HBB.out hl k hlt)
      go_wp2
      go_round
      case rel => exact ⟨k + 1, by omega, by go_num, by rw [hs.out]⟩
      case measure => simp [intOf]; omega
    · obtain rfl : k = l.length := by omega
      go_wp2
      go_ret2
      exact ⟨rfl, HB.out⟩
theorem num_no (w : World) (l : List UInt8) (hl : l.length ≤ maxLen) (h : isB l = false) :
    Calls Tryd.prog 14 #[.string ⟨l.toArray⟩] w fun e w' => e = .returned (.tuple #[.int .u64 0, .int .i64 3]) ∧ Below w.heap.size w w' := by
  have HI := Lib.hid (is_any w l hl)
  rw [h] at HI
  clear h
  go_enter Tryd.func14, Tryd.ntmps14
  go_wp2_with (go_at_call 18; refine HI.out.mono ?_; rintro e w1 ⟨rfl, hb⟩; have HB := Lib.hid hb; clear hb)
  go_ret2
  exact ⟨rfl, HB.out⟩
theorem num_long (w : World) (l : List UInt8) (h : isB l = true) (hl : 64 < l.length) :
    Calls Tryd.prog 14 #[.string ⟨l.toArray⟩] w fun e w' => e = .returned (.tuple #[.int .u64 0, .int .i64 5]) ∧ Below w.heap.size w w' := by
  have HI := Lib.hid (is_any w l (by have := (isB_iff.1 h).1; unfold maxLen; omega))
  rw [h] at HI
  clear h
  go_enter Tryd.func14, Tryd.ntmps14
  go_wp2_with (go_at_call 18; refine HI.out.mono ?_; rintro e w1 ⟨rfl, hb⟩; have HB := Lib.hid hb; clear hb)
  go_ret2
  exact ⟨rfl, HB.out⟩
namespace N
/-- what Number answers -/
def nuV (l : List UInt8) : Int := if isB l = true ∧ l.length ≤ 64 then ((numB l : Nat) : Int) else 0
def nuE (l : List UInt8) : Int := if isB l = true then (if l.length ≤ 64 then 0 else 5) else 3
end N
theorem num_any (w : World) (l : List UInt8) (hl : l.length ≤ maxLen) :
    Calls Tryd.prog 14 #[.string ⟨l.toArray⟩] w fun e w' => e = .returned (.tuple #[.int .u64 (nuV l), .int .i64 (nuE l)]) ∧ Below w.heap.size w w' := by
  unfold nuV nuE
  by_cases h : isB l = true
  · by_cases h6 : l.length ≤ 64
    · rw [if_pos ⟨h, h6⟩, if_pos h, if_pos h6]; exact num_ok w l (isB_iff.1 h).2 h6
    · rw [if_neg (fun e => h6 e.2), if_pos h, if_neg h6]; exact num_long w l h (by omega)
  · rw [if_neg (fun e => h e.1), if_neg h]; exact num_no w l hl (by simpa using h)
theorem of_no (w : World) (x n : Int) (wx : (Lit.int .u64 x).wf = true) (wn : (Lit.int .i64 n).wf = true) (h : n < 0 ∨ 64 < n) :
    Calls Tryd.prog 16 #[.int .u64 x, .int .i64 n] w fun e w' => e = .returned (.tuple #[.string ⟨#[]⟩, .int .i64 1]) ∧ w' = w := by
  rcases h with h | h
  · go_enter Tryd.func16, Tryd.ntmps16
    go_wp2
    go_ret2
    exact ⟨rfl, rfl⟩
  · have h0 : ¬ n < 0 := by omega
    go_enter Tryd.func16, Tryd.ntmps16
    go_wp2
    go_ret2
    exact ⟨rfl, rfl⟩
theorem cast_div (x n : Nat) : ((x : Nat) : Int) / 2 ^ n = ((x / 2 ^ n : Nat) : Int) := by
  rw [Int.natCast_ediv, W.cast_pow]
theorem of_big (w : World) (x n : Nat) (hx : x < 18446744073709551616) (hn : n ≤ 64) (h : 2 ^ n ≤ x) :
    Calls Tryd.prog 16 #[.int .u64 x, .int .i64 n] w fun e w' => e = .returned (.tuple #[.string ⟨#[]⟩, .int .i64 1]) ∧ w' = w := by
  have hq : (((x : Nat) : Int) / 2 ^ n != 0) = true := by
    rw [cast_div]
    have := Nat.div_pos h (Nat.two_pow_pos n)
    obtain ⟨q, hq⟩ : ∃ q, x / 2 ^ n = q := ⟨_, rfl⟩
    rw [hq] at this ⊢
    simp; omega
  clear h
  go_enter Tryd.func16, Tryd.ntmps16
  go_wp2
  go_ret2
  exact ⟨rfl, rfl⟩
theorem of_bit (x k : Nat) (hx : x < 18446744073709551616) : (48 + bits .and .u64 (((x : Nat) : Int) / 2 ^ k) 1) % 256 = (((bitOf (x / 2 ^ k)).toNat : Nat) : Int) := by
  have h1 : x / 2 ^ k < 18446744073709551616 := Nat.lt_of_le_of_lt (Nat.div_le_self _ _) hx
  have h2 := bits_and_u64_nat (x / 2 ^ k) 1 h1 (by decide)
  rw [cast_div, bitOf_nat]
  rw [show ((1 : Nat) : Int) = 1 from rfl] at h2
  rw [h2, Nat.and_one_is_mod]
  omega
theorem of_step (n k x : Nat) (h : k < n) : (List.replicate (n - k) (0 : UInt8) ++ ofB k x).set (n - 1 - k) (bitOf (x / 2 ^ k)) = List.replicate (n - (k + 1)) 0 ++ ofB (k + 1) x := by
  rw [ofB_front, show n - k = (n - (k + 1)) + 1 by omega, List.replicate_succ', List.append_assoc, List.set_append_right _ _ (by simp; omega), List.length_replicate,
    show n - 1 - k - (n - (k + 1)) = 0 by omega]
  rfl
theorem of_ok (w : World) (x n : Nat) (hx : x < 18446744073709551616) (hn : n ≤ 64) (h : x < 2 ^ n) :
    Calls Tryd.prog 16 #[.int .u64 x, .int .i64 n] w fun e w' => e = .returned (.tuple #[.string ⟨(ofB n x).toArray⟩, .int .i64 0]) ∧ Below w.heap.size w w' := by
  have hq : (((x : Nat) : Int) / 2 ^ n != 0) = false := by
    rw [cast_div, Nat.div_eq_of_lt h]; rfl
  have hmk := makeB_run n (by omega)
  have H := Lib.hid h
  clear h
  go_enter Tryd.func16, Tryd.ntmps16
  go_wp2
  clear hmk hq
  go_loopw [24] (fun i wr => ∃ k : Nat, i = .int .i64 k ∧ k ≤ n ∧ ArrB wr w.heap.size (List.replicate (n - k) 0 ++ ofB k x) ∧ Below w.heap.size w wr) (fun i _ => n - (intOf i).toNat)
  case atStart =>
    refine ⟨0, rfl, Nat.zero_le _, ?_, (Below.refl _ w).alloc (Nat.le_refl _) _⟩
    have := ArrB.made w n
    simpa [ofB] using this
  case round =>
    obtain ⟨k, rfl, hk, hA, hb⟩ := hrel
    obtain ⟨wj, rfl⟩ : ∃ wj : World, wj = wr := ⟨_, rfl⟩
    have hlen : (List.replicate (n - k) (0 : UInt8) ++ ofB k x).length = n := by simp [ofB_length]; omega
    by_cases hlt : k < n
    · have hcz := hA.cell (k := n - 1 - k) (by omega)
      have hfz := hA.frozen (n - 1 - k)
      have e1 : ((n : Int) - 1 - (k : Int)).toNat = n - 1 - k := by omega
      have HBj := Lib.hid hb
      have HS := Lib.hid (hA.set (n - 1 - k) (bitOf (x / 2 ^ k)))
      clear hA hb hlen
      go_wp2
      go_round
      case rel =>
        refine ⟨k + 1, by go_num, by omega, ?_, HBj.out.setCell (Nat.le_refl _) _⟩
        have := HS.out
        rw [of_step n k x hlt, ← of_bit x k hx] at this
        exact this
      case measure => simp [intOf]; omega
    · obtain rfl : k = n := by omega
      have hsb := str_back _ _ _ _ wj (hA.sl hlen (by unfold maxLen; omega))
      rw [Nat.sub_self, List.replicate_zero, List.nil_append] at hsb
      unfold str at hsb
      have HBj := Lib.hid hb
      clear hA hb hlen
      go_wp2
      go_ret2
      exact ⟨rfl, HBj.out⟩
namespace N
/-- what Of answers -/
def ofFits (x n : Int) : Prop := 0 ≤ n ∧ n ≤ 64 ∧ x < 2 ^ n.toNat
instance (x n : Int) : Decidable (ofFits x n) := by unfold ofFits; infer_instance
def ofV (x n : Int) : List UInt8 := if ofFits x n then ofB n.toNat x.toNat else []
def ofE (x n : Int) : Int := if ofFits x n then 0 else 1
end N
theorem of_any (w : World) (x n : Int) (wx : (Lit.int .u64 x).wf = true) (wn : (Lit.int .i64 n).wf = true) :
    Calls Tryd.prog 16 #[.int .u64 x, .int .i64 n] w fun e w' => e = .returned (.tuple #[.string ⟨(ofV x n).toArray⟩, .int .i64 (ofE x n)]) ∧ Below w.heap.size w w' := by
  have bx := bounds_u64 wx
  unfold ofV ofE
  by_cases h : 0 ≤ n ∧ n ≤ 64
  · obtain ⟨h0, h1⟩ := h
    obtain ⟨m, rfl⟩ := Int.eq_ofNat_of_zero_le h0
    obtain ⟨y, rfl⟩ := Int.eq_ofNat_of_zero_le bx.1
    have hc : ((y : Int) < 2 ^ ((m : Int)).toNat) ↔ y < 2 ^ m := by
      rw [Int.toNat_natCast, ← W.cast_pow]; omega
    by_cases hf : y < 2 ^ m
    · rw [if_pos ⟨h0, h1, hc.2 hf⟩, if_pos ⟨h0, h1, hc.2 hf⟩]
      exact of_ok w y m (by omega) (by omega) hf
    · rw [if_neg (fun e : ofFits _ _ => hf (hc.1 e.2.2)), if_neg (fun e : ofFits _ _ => hf (hc.1 e.2.2))]
      refine (of_big w y m (by omega) (by omega) (by omega)).mono ?_
      rintro e w' ⟨he, rfl⟩
      exact ⟨he, Below.refl _ _⟩
  · rw [if_neg (fun e : ofFits _ _ => h ⟨e.1, e.2.1⟩), if_neg (fun e : ofFits _ _ => h ⟨e.1, e.2.1⟩)]
    refine (of_no w x n wx wn (by omega)).mono ?_
    rintro e w' ⟨he, rfl⟩
    exact ⟨he, Below.refl _ _⟩
end Go.Proofs.YtcpkkceoobioiaaDoor
