/- Bit strings: what Cut, Clear, Down come to, by the order; part of layer 7's laws. -/
import Derived.Test.YtcpkkceoobioiaaDoorBitMath2
namespace Go.Proofs.YtcpkkceoobioiaaDoor
open Go.RowKit
set_option linter.unusedVariables false
set_option linter.unusedSimpArgs false
namespace N
theorem part3 {l : List UInt8} {a n : Nat} (h : a + n ≤ l.length) : l = l.take a ++ (l.drop a).take n ++ l.drop (a + n) ∧ (l.take a).length = a ∧ ((l.drop a).take n).length = n := by
  refine ⟨?_, by rw [List.length_take]; omega, by rw [List.length_take, List.length_drop]; omega⟩
  rw [List.append_assoc, ← List.drop_drop, List.take_append_drop, List.take_append_drop]
theorem cut_less {l : List UInt8} {a n : Nat} (hB : isB l = true) (hn : 1 ≤ n) (h : a + n ≤ l.length) : isB (cutB l a n) = true ∧ cmpB (cutB l a n) l = -1 ∧ (cutB l a n).length = l.length - n := by
  have hb := isB_bits hB
  have hl := (isB_iff.1 hB).1
  have hc : bitsL (cutB l a n) = true := by unfold cutB; rw [bitsL_append, bitsL_take hb, bitsL_drop hb]; rfl
  have hcl : (cutB l a n).length = l.length - n := by unfold cutB; rw [List.length_append, List.length_take, List.length_drop]; omega
  exact ⟨isB_iff.2 ⟨by omega, hc⟩, cmpB_lt hc hb (.inl (by omega)), hcl⟩
theorem clear_len {l : List UInt8} {a n : Nat} (h : a + n ≤ l.length) : (clearB l a n).length = l.length := by
  unfold clearB; rw [List.length_append, List.length_append, List.length_take, List.length_replicate, List.length_drop]; omega
theorem clear_isB {l : List UInt8} {a n : Nat} (hB : isB l = true) (h : a + n ≤ l.length) : isB (clearB l a n) = true := by
  have hb := isB_bits hB
  refine isB_iff.2 ⟨by rw [clear_len h]; exact (isB_iff.1 hB).1, ?_⟩
  unfold clearB; rw [bitsL_append, bitsL_append, bitsL_take hb, bitsL_drop hb, bitsL_rep _ (by decide)]; rfl
theorem numB_pos {l : List UInt8} (hb : bitsL l = true) (h : 49 ∈ l) : 0 < numB l := by
  induction l with
  | nil => cases h
  | cons c l ih =>
    rw [bitsL_cons, Bool.and_eq_true] at hb
    rw [numB]
    rcases isbit_val hb.1 with ⟨e, e2⟩ | ⟨e, e2⟩
    · rw [e] at h
      rcases List.mem_cons.1 h with h | h
      · cases h
      · have := ih hb.2 h; omega
    · rw [e2, Nat.one_mul]
      have := Nat.two_pow_pos l.length
      omega
theorem clear_one {l : List UInt8} {a n : Nat} (hB : isB l = true) (h : a + n ≤ l.length) (h1 : 49 ∈ (l.drop a).take n) : cmpB (clearB l a n) l = -1 := by
  have hb := isB_bits hB
  obtain ⟨e, e1, e2⟩ := part3 h
  have hm : bitsL ((l.drop a).take n) = true := bitsL_take (bitsL_drop hb a) n
  refine cmpB_lt (isB_bits (clear_isB hB h)) hb (.inr ⟨clear_len h, ?_⟩)
  have hp := numB_pos hm h1
  have h3 : numB l = (numB (l.take a) * 2 ^ n + numB ((l.drop a).take n)) * 2 ^ (l.drop (a + n)).length + numB (l.drop (a + n)) := by
    conv => lhs; rw [e]
    rw [numB_append, numB_append, e2]
  have h4 : numB (clearB l a n) = (numB (l.take a) * 2 ^ n) * 2 ^ (l.drop (a + n)).length + numB (l.drop (a + n)) := by
    unfold clearB; rw [numB_append, numB_append, List.length_replicate, numB_zeros, Nat.add_zero]
  rw [h3, h4, Nat.add_mul]
  have := Nat.two_pow_pos (l.drop (a + n)).length
  have : 0 < numB ((l.drop a).take n) * 2 ^ (l.drop (a + n)).length := Nat.mul_pos hp this
  omega
theorem clear_same {l : List UInt8} {a n : Nat} (hB : isB l = true) (h : a + n ≤ l.length) (h1 : ¬ 49 ∈ (l.drop a).take n) : clearB l a n = l := by
  have hb := isB_bits hB
  obtain ⟨e, e1, e2⟩ := part3 h
  have hm : bitsL ((l.drop a).take n) = true := bitsL_take (bitsL_drop hb a) n
  have hz : (l.drop a).take n = List.replicate n 48 := by
    rw [List.eq_replicate_iff]
    refine ⟨e2, fun c hc => ?_⟩
    rcases bitsL_iff.1 hm c hc with h2 | h2
    · exact h2
    · rw [h2] at hc; exact absurd hc h1
  unfold clearB
  rw [← hz]
  exact e.symm
theorem down_less {l : List UInt8} {a : Nat} (hB : isB l = true) (ha : a < l.length) (h1 : l.getD a 0 = 49) :
    isB (downB l a) = true ∧ cmpB (downB l a) l = -1 ∧ (downB l a).length = l.length := by
  have hb := isB_bits hB
  have hl := (isB_iff.1 hB).1
  have hlen : (downB l a).length = l.length := by
    unfold downB; rw [List.length_append, List.length_append, List.length_take, List.length_replicate]; simp; omega
  have hd : bitsL (downB l a) = true := by
    unfold downB; rw [bitsL_append, bitsL_append, bitsL_take hb, bitsL_rep _ (by decide)]; rfl
  refine ⟨isB_iff.2 ⟨by omega, hd⟩, cmpB_lt hd hb (.inr ⟨hlen, ?_⟩), hlen⟩
  have hg : l[a] = 49 := by rwa [List.getD_eq_getElem?_getD, List.getElem?_eq_getElem ha] at h1
  have e : l = l.take a ++ 49 :: l.drop (a + 1) := by rw [← hg, ← List.drop_eq_getElem_cons ha, List.take_append_drop]
  have hk : (l.drop (a + 1)).length = l.length - a - 1 := by rw [List.length_drop]; omega
  obtain ⟨k, hk2⟩ : ∃ k, l.length - a - 1 = k := ⟨_, rfl⟩
  have h3 : numB l = numB (l.take a) * 2 ^ (k + 1) + (2 ^ k + numB (l.drop (a + 1))) := by
    conv => lhs; rw [e]
    rw [numB_append, List.length_cons, hk, hk2, numB, hk, hk2]
    have : (49 : UInt8).toNat - 48 = 1 := rfl
    rw [this, Nat.one_mul]
  have h4 : numB (downB l a) = numB (l.take a) * 2 ^ (k + 1) + numB (List.replicate k 49) := by
    unfold downB
    rw [hk2, List.append_assoc, numB_append]
    have : numB ([48] ++ List.replicate k 49) = numB (List.replicate k 49) := by
      show ((48 : UInt8).toNat - 48) * _ + numB _ = _
      have : (48 : UInt8).toNat - 48 = 0 := rfl
      rw [this]; simp
    rw [this]
    simp [Nat.add_comm]
  have h5 := numB_ones k
  omega
theorem mem_take_succ (m : List UInt8) (k : Nat) (h : k < m.length) (c : UInt8) : decide (c ∈ m.take (k + 1)) = (decide (c ∈ m.take k) || (m.getD k 0 == c)) := by
  rw [List.take_succ_eq_append_getElem h, List.getD_eq_getElem?_getD, List.getElem?_eq_getElem h]
  generalize m.take k = T
  generalize m[k] = d
  show decide (c ∈ T ++ [d]) = (decide (c ∈ T) || d == c)
  by_cases h1 : c ∈ T
  · simp [h1]
  · by_cases h2 : d = c
    · simp [h1, h2]
    · have : ¬ c = d := fun e => h2 e.symm
      simp [h1, h2, this]
end N
open N
theorem lpart_yes (w : World) (l : List UInt8) (hl : l.length ≤ maxLen) (a n : Nat) (hn : 1 ≤ n) (h : a + n ≤ l.length) :
    Calls Tryd.prog 32 #[.string ⟨l.toArray⟩, .int .i64 a, .int .i64 n] w fun e w' => e = .returned (.bool true) ∧ w' = w := by
  unfold maxLen at hl
  have h1 : (1 : Int) ≤ (n : Int) := by omega
  have h2 : (n : Int) ≤ (l.length : Int) := by omega
  have h3 : (0 : Int) ≤ (a : Int) := by omega
  have h5 : IntKind.i64.wrap ((l.length : Int) - n) = (l.length : Int) - n := by rw [IntKind.wrap_i64]; omega
  have h4 : (a : Int) ≤ (l.length : Int) - n := by omega
  go_enter Tryd.func32, Tryd.ntmps32
  go_wp2
  go_ret
  first
    | exact ⟨rfl, rfl⟩
    | (refine ⟨?_, rfl⟩; simp; omega)
end Go.Proofs.YtcpkkceoobioiaaDoor
