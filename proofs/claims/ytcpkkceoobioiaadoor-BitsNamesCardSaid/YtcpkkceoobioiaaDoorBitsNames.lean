/-
  PROVED: the statement BitsNames (tombolalaw07.BitsNames) about the landed commit: for every input the law returns true and leaves its arguments as they were. Conditions: none beyond those that the given row itself prints.
-/
import Derived.Test.YtcpkkceoobioiaaDoorCards
import Derived.Test.YtcpkkceoobioiaaDoorTie
import Derived.LaidMore
import Derived.Lay
import Derived.SevenTiedAt
import Derived.Stop.Joined
import Derived.Test.YtcpkkceoobioiaaDoorRows
import Derived.WalkKit
import Derived.ProofKit
import Derived.OpenShut
import Derived.RowKit3
import Derived.Test.YtcpkkceoobioiaaDoorGFrame
import Derived.Test.YtcpkkceoobioiaaDoorBitAwake
namespace Go.Proofs.YtcpkkceoobioiaaDoor.bitsNames
open Go.ChangeShapes Go.WideShapes Go.ChangeAt Go.RowKit
set_option linter.unusedVariables false
set_option linter.unusedSimpArgs false
set_option maxRecDepth 20000
open N
theorem own : ownKnob Tryd.prog.godebug = none := by kernel_rfl
theorem o49 : ∀ (n : Nat), ∀ c ∈ List.replicate n (49 : UInt8), c ≠ 48   := fun n c hc => by rw [List.eq_of_mem_replicate hc]; decide
/-- the table: of each row what holds -/
def BRows (g n : Nat) (w : World) : Prop := ∀ k, k < n → ∃ (l : List UInt8) (a m e : Int), w.cell? ⟨g, k * 4, none⟩ = some (.string ⟨l.toArray⟩) ∧ w.cell? ⟨g, k * 4 + 1, none⟩ = some (.int .i64 a) ∧ w.cell? ⟨g, k * 4 + 2, none⟩ = some (.int .i64 m) ∧ w.cell? ⟨g, k * 4 + 3, none⟩ = some (.int .i64 e) ∧
  l.length ≤ maxLen ∧ (Lit.int .i64 a).wf = true ∧ (Lit.int .i64 m).wf = true ∧ partE l a m = e
theorem BRows.below {g n : Nat} {w w' : World} (h : BRows g n w) (hg : g < w.heap.size) (hb : Below w.heap.size w w') : BRows g n w' := by
  intro k hk
  obtain ⟨l, a, m, e, h0, h1, h2, h3, h4⟩ := h k hk
  exact ⟨l, a, m, e, (hb.cell hg).trans h0, (hb.cell hg).trans h1, (hb.cell hg).trans h2, (hb.cell hg).trans h3, h4⟩
theorem brows_of (w : World) (C : Array Value) (t : TypeId) (n : Nat)
    (h : ∀ k, k < n → ∃ (l : List UInt8) (a m e : Int), C[k * 4]? = some (.string ⟨l.toArray⟩) ∧ C[k * 4 + 1]? = some (.int .i64 a) ∧ C[k * 4 + 2]? = some (.int .i64 m) ∧ C[k * 4 + 3]? = some (.int .i64 e) ∧ l.length ≤ maxLen ∧ (Lit.int .i64 a).wf = true ∧ (Lit.int .i64 m).wf = true ∧ partE l a m = e) :
    BRows w.heap.size n (w.alloc (.cells C t)) := by
  intro k hk
  obtain ⟨l, a, m, e, h0, h1, h2, h3, h4⟩ := h k hk
  exact ⟨l, a, m, e, by rw [World.cell?_alloc_new]; exact h0, by rw [World.cell?_alloc_new]; exact h1, by rw [World.cell?_alloc_new]; exact h2, by rw [World.cell?_alloc_new]; exact h3, h4⟩
theorem len_c (n : Nat) (h : n ≤ 100000) (c : UInt8) : (List.replicate n c).length ≤ maxLen := by rw [List.length_replicate]; unfold maxLen; omega
theorem isB_rep (n : Nat) (h : n ≤ 1024) : isB (List.replicate n 49) = true := isB_iff.2 ⟨by rw [List.length_replicate]; exact h, bitsL_rep n rfl⟩
theorem isB_big (n : Nat) (h : 1024 < n) : isB (List.replicate n 49) = false := by unfold isB; simp; omega
set_option maxRecDepth 100000 in
set_option maxHeartbeats 40000000 in
theorem walk (w : World)  :
    Calls Tryd.prog 6 #[] w fun e w' => e = .returned (.bool true) ∧ Below w.heap.size w w' := by
  have HB := Lib.hid (Below.refl w.heap.size w)
  go_enter Tryd.func6, Tryd.ntmps6
  go_wp2_with (go_at_call 13; refine (bawake _).mono ?_; rintro e w1 ⟨rfl, hb⟩; have HB2 := Lib.hid (HB.out.trans (hb.mono HB.out.size)); clear hb HB; have HB := HB2; clear HB2)
  go_loop [1, 2, 3] (fun z o i => ∃ k : Nat, k ≤ 1024 ∧ i = .int .i64 k ∧ z = .string ⟨(List.replicate k (48 : UInt8)).toArray⟩ ∧ o = .string ⟨(List.replicate k (49 : UInt8)).toArray⟩) (fun _ _ i => 1024 - (intOf i).toNat)
  case atStart => exact ⟨0, by omega, rfl, rfl, rfl⟩
  case round =>
    obtain ⟨k, hk, rfl, rfl, rfl⟩ := hrel
    by_cases hlt : k < 1024
    · have hz : (⟨(List.replicate k (48 : UInt8)).toArray⟩ : ByteArray) ++ ⟨#[48]⟩ = ⟨(List.replicate (k + 1) (48 : UInt8)).toArray⟩ := by rw [← rep_snoc]; exact ByteArray.mk_append_mk _ [48]
      have ho : (⟨(List.replicate k (49 : UInt8)).toArray⟩ : ByteArray) ++ ⟨#[49]⟩ = ⟨(List.replicate (k + 1) (49 : UInt8)).toArray⟩ := by rw [← rep_snoc]; exact ByteArray.mk_append_mk _ [49]
      obtain ⟨z, hze⟩ : ∃ z, List.replicate k (48 : UInt8) = z := ⟨_, rfl⟩
      obtain ⟨o, hoe⟩ : ∃ o, List.replicate k (49 : UInt8) = o := ⟨_, rfl⟩
      obtain ⟨z2, hze2⟩ : ∃ z, List.replicate (k + 1) (48 : UInt8) = z := ⟨_, rfl⟩
      obtain ⟨o2, hoe2⟩ : ∃ o, List.replicate (k + 1) (49 : UInt8) = o := ⟨_, rfl⟩
      have hzl : z.length = k := by rw [← hze, List.length_replicate]
      have hol : o.length = k := by rw [← hoe, List.length_replicate]
      rw [hze, hze2] at hz
      rw [hoe, hoe2] at ho
      rw [hze, hoe]
      have HZ := Lib.hid hze2
      have HO := Lib.hid hoe2
      have hsz : ¬ (9223372036854775807 < k + 1) := by omega
      clear hze hoe hze2 hoe2
      go_wp2
      go_round
      case rel => exact ⟨k + 1, by omega, by go_num, by rw [HZ.out], by rw [HO.out]⟩
      case measure => simp [intOf]; omega
    · obtain rfl : k = 1024 := by omega
      obtain ⟨O, hO⟩ : ∃ x, List.replicate 1024 (49 : UInt8) = x := ⟨_, rfl⟩
      have lO : O.length = 1024 := by rw [← hO, List.length_replicate]
      obtain ⟨Z, hZ⟩ : ∃ x, List.replicate 1024 (48 : UInt8) = x := ⟨_, rfl⟩
      have lZ : Z.length = 1024 := by rw [← hZ, List.length_replicate]
      obtain ⟨P, hP⟩ : ∃ x, List.replicate 1023 (49 : UInt8) = x := ⟨_, rfl⟩
      have lP : P.length = 1023 := by rw [← hP, List.length_replicate]
      obtain ⟨Q, hQ⟩ : ∃ x, List.replicate 64 (49 : UInt8) = x := ⟨_, rfl⟩
      have lQ : Q.length = 64 := by rw [← hQ, List.length_replicate]
      obtain ⟨Q5, hQ5⟩ : ∃ x, List.replicate 65 (49 : UInt8) = x := ⟨_, rfl⟩
      have lQ5 : Q5.length = 65 := by rw [← hQ5, List.length_replicate]
      obtain ⟨O1, hO1⟩ : ∃ x, List.replicate 1025 (49 : UInt8) = x := ⟨_, rfl⟩
      have lO1 : O1.length = 1025 := by rw [← hO1, List.length_replicate]
      have e1 : (⟨O.toArray⟩ : ByteArray).extract 1 1024 = ⟨P.toArray⟩ := by
        have := ext_from O 1
        rw [lO] at this
        rw [this, ← hO, ← hP, List.drop_replicate]
      have e2 : (⟨O.toArray⟩ : ByteArray).extract 0 64 = ⟨Q.toArray⟩ := by rw [ext_to, ← hO, ← hQ, List.take_replicate]; rfl
      have e3 : (⟨O.toArray⟩ : ByteArray).extract 0 65 = ⟨Q5.toArray⟩ := by rw [ext_to, ← hO, ← hQ5, List.take_replicate]; rfl
      have e4 : (⟨O.toArray⟩ : ByteArray) ++ ⟨#[49]⟩ = ⟨O1.toArray⟩ := by rw [← hO, ← hO1, show (1025 : Nat) = 1024 + 1 from rfl, ← rep_snoc]; exact ByteArray.mk_append_mk _ [49]
      obtain ⟨R, hR⟩ : ∃ R, P ++ [48] = R := ⟨_, rfl⟩
      have e5 : (⟨P.toArray⟩ : ByteArray) ++ ⟨#[48]⟩ = ⟨R.toArray⟩ := by rw [← hR]; exact ByteArray.mk_append_mk P [48]
      have bO : isB O = true := by rw [← hO]; exact isB_rep 1024 (by decide)
      have bP : isB P = true := by rw [← hP]; exact isB_rep 1023 (by decide)
      have bQ : isB Q = true := by rw [← hQ]; exact isB_rep 64 (by decide)
      have bQ5 : isB Q5 = true := by rw [← hQ5]; exact isB_rep 65 (by decide)
      have bO1 : isB O1 = false := by rw [← hO1]; exact isB_big 1025 (by decide)
      have mO : O.length ≤ maxLen := by rw [lO]; unfold maxLen; omega
      have mP : P.length ≤ maxLen := by rw [lP]; unfold maxLen; omega
      have mQ : Q.length ≤ maxLen := by rw [lQ]; unfold maxLen; omega
      have mQ5 : Q5.length ≤ maxLen := by rw [lQ5]; unfold maxLen; omega
      have mO1 : O1.length ≤ maxLen := by rw [lO1]; unfold maxLen; omega
      have n1 : nextB O = ([], false) := nextB_top bO (nxt_none (by rw [← hO]; exact o49 1024)) (by rw [lO]; omega)
      have n2 : nextB P = (Z, true) := by rw [nextB_up bP (nxt_none (by rw [← hP]; exact o49 1023)) (by rw [lP]; omega), lP, ← hZ]
      have n3 : nextB O1 = ([], false) := nextB_no bO1
      have n4 : nextB [50] = ([], false) := nextB_no (by decide +kernel)
      have q1 : numB Q = 18446744073709551615 := by have := numB_ones 64; rw [hQ] at this; omega
      have u1 : nuV Q = 18446744073709551615 := by unfold nuV; rw [if_pos ⟨bQ, by rw [lQ]; omega⟩, q1]; rfl
      have u1' : nuE Q = 0 := by unfold nuE; rw [if_pos bQ, if_pos (by rw [lQ]; omega)]
      have u2 : nuV Q5 = 0 := by unfold nuV; rw [if_neg (fun e => by have := e.2; omega)]
      have u2' : nuE Q5 = 5 := by unfold nuE; rw [if_pos bQ5, if_neg (by rw [lQ5]; omega)]
      have u3 : nuV [48, 32] = 0 := by decide +kernel
      have u3' : nuE [48, 32] = 3 := by decide +kernel
      have f1 : ofFits 18446744073709551615 64 := by unfold ofFits; decide
      have v1 : ofV 18446744073709551615 64 = Q := by
        unfold ofV
        rw [if_pos f1]
        have := ofB_of (isB_iff.1 bQ).2
        rw [lQ, q1] at this
        exact this
      have v1' : ofE 18446744073709551615 64 = 0 := by unfold ofE; rw [if_pos f1]
      have d1 : downE O 1023 = 0 := by
        unfold downE
        rw [if_pos bO, if_pos ⟨by omega, by rw [lO]; omega, by rw [← hO]; rw [List.getD_eq_getElem?_getD, List.getElem?_replicate]; rfl⟩]
      have d2 : downV O 1023 = R := by
        unfold downV
        rw [if_pos d1]
        show O.take 1023 ++ [48] ++ List.replicate (O.length - 1023 - 1) 49 = R
        rw [lO, ← hO, List.take_replicate, ← hR, ← hP]
        simp
      have N1 := Lib.hid (fun W : World => show Calls Tryd.prog 22 #[.string ⟨(O).toArray⟩] W fun e w' => e = .returned (.tuple #[.string ⟨([]).toArray⟩, .bool false]) ∧ Below W.heap.size W w' from by
        have h := next_any W O mO
        rwa [n1] at h)
      have N2 := Lib.hid (fun W : World => show Calls Tryd.prog 22 #[.string ⟨(P).toArray⟩] W fun e w' => e = .returned (.tuple #[.string ⟨(Z).toArray⟩, .bool true]) ∧ Below W.heap.size W w' from by
        have h := next_any W P mP
        rwa [n2] at h)
      have N3 := Lib.hid (fun W : World => show Calls Tryd.prog 22 #[.string ⟨(O1).toArray⟩] W fun e w' => e = .returned (.tuple #[.string ⟨([]).toArray⟩, .bool false]) ∧ Below W.heap.size W w' from by
        have h := next_any W O1 mO1
        rwa [n3] at h)
      have N4 := Lib.hid (fun W : World => show Calls Tryd.prog 22 #[.string ⟨([50]).toArray⟩] W fun e w' => e = .returned (.tuple #[.string ⟨([]).toArray⟩, .bool false]) ∧ Below W.heap.size W w' from by
        have h := next_any W [50] (by decide)
        rwa [n4] at h)
      have U1 := Lib.hid (fun W : World => show Calls Tryd.prog 14 #[.string ⟨(Q).toArray⟩] W fun e w' => e = .returned (.tuple #[.int .u64 (18446744073709551615), .int .i64 0]) ∧ Below W.heap.size W w' from by
        have h := num_any W Q mQ
        rwa [u1, u1'] at h)
      have U2 := Lib.hid (fun W : World => show Calls Tryd.prog 14 #[.string ⟨(Q5).toArray⟩] W fun e w' => e = .returned (.tuple #[.int .u64 (0), .int .i64 5]) ∧ Below W.heap.size W w' from by
        have h := num_any W Q5 mQ5
        rwa [u2, u2'] at h)
      have U3 := Lib.hid (fun W : World => show Calls Tryd.prog 14 #[.string ⟨([48, 32]).toArray⟩] W fun e w' => e = .returned (.tuple #[.int .u64 (0), .int .i64 3]) ∧ Below W.heap.size W w' from by
        have h := num_any W [48, 32] (by decide)
        rwa [u3, u3'] at h)
      have F1 := Lib.hid (fun W : World => show Calls Tryd.prog 16 #[.int .u64 18446744073709551615, .int .i64 64] W fun e w' => e = .returned (.tuple #[.string ⟨(Q).toArray⟩, .int .i64 0]) ∧ Below W.heap.size W w' from by
        have h := of_any W 18446744073709551615 64 (by decide) (by decide)
        rwa [v1, v1'] at h)
      have F2 := Lib.hid (fun W : World => show Calls Tryd.prog 16 #[.int .u64 9223372036854775808, .int .i64 63] W fun e w' => e = .returned (.tuple #[.string ⟨([]).toArray⟩, .int .i64 1]) ∧ Below W.heap.size W w' from by
        have h := of_any W 9223372036854775808 63 (by decide) (by decide)
        rwa [show ofV 9223372036854775808 63 = [] by decide +kernel, show ofE 9223372036854775808 63 = 1 by decide +kernel] at h)
      have F3 := Lib.hid (fun W : World => show Calls Tryd.prog 16 #[.int .u64 0, .int .i64 65] W fun e w' => e = .returned (.tuple #[.string ⟨([]).toArray⟩, .int .i64 1]) ∧ Below W.heap.size W w' from by
        have h := of_any W 0 65 (by decide) (by decide)
        rwa [show ofV 0 65 = [] by decide +kernel, show ofE 0 65 = 1 by decide +kernel] at h)
      have F4 := Lib.hid (fun W : World => show Calls Tryd.prog 16 #[.int .u64 0, .int .i64 (-1)] W fun e w' => e = .returned (.tuple #[.string ⟨([]).toArray⟩, .int .i64 1]) ∧ Below W.heap.size W w' from by
        have h := of_any W 0 (-1) (by decide) (by decide)
        rwa [show ofV 0 (-1) = [] by decide +kernel, show ofE 0 (-1) = 1 by decide +kernel] at h)
      have F5 := Lib.hid (fun W : World => show Calls Tryd.prog 16 #[.int .u64 0, .int .i64 0] W fun e w' => e = .returned (.tuple #[.string ⟨([]).toArray⟩, .int .i64 0]) ∧ Below W.heap.size W w' from by
        have h := of_any W 0 0 (by decide) (by decide)
        rwa [show ofV 0 0 = [] by decide +kernel, show ofE 0 0 = 0 by decide +kernel] at h)
      have D1 := Lib.hid (fun W : World => show Calls Tryd.prog 28 #[.string ⟨([49, 48]).toArray⟩, .int .i64 2] W fun e w' => e = .returned (.tuple #[.string ⟨([]).toArray⟩, .int .i64 1]) ∧ Below W.heap.size W w' from by
        have h := down_any W [49, 48] (by decide) 2 (by decide)
        rwa [show downV [49, 48] 2 = [] by decide +kernel, show downE [49, 48] 2 = 1 by decide +kernel] at h)
      have D2 := Lib.hid (fun W : World => show Calls Tryd.prog 28 #[.string ⟨([49, 48]).toArray⟩, .int .i64 1] W fun e w' => e = .returned (.tuple #[.string ⟨([]).toArray⟩, .int .i64 1]) ∧ Below W.heap.size W w' from by
        have h := down_any W [49, 48] (by decide) 1 (by decide)
        rwa [show downV [49, 48] 1 = [] by decide +kernel, show downE [49, 48] 1 = 1 by decide +kernel] at h)
      have D3 := Lib.hid (fun W : World => show Calls Tryd.prog 28 #[.string ⟨([49, 48]).toArray⟩, .int .i64 (-1)] W fun e w' => e = .returned (.tuple #[.string ⟨([]).toArray⟩, .int .i64 1]) ∧ Below W.heap.size W w' from by
        have h := down_any W [49, 48] (by decide) (-1) (by decide)
        rwa [show downV [49, 48] (-1) = [] by decide +kernel, show downE [49, 48] (-1) = 1 by decide +kernel] at h)
      have D4 := Lib.hid (fun W : World => show Calls Tryd.prog 28 #[.string ⟨([120]).toArray⟩, .int .i64 0] W fun e w' => e = .returned (.tuple #[.string ⟨([]).toArray⟩, .int .i64 3]) ∧ Below W.heap.size W w' from by
        have h := down_any W [120] (by decide) 0 (by decide)
        rwa [show downV [120] 0 = [] by decide +kernel, show downE [120] 0 = 3 by decide +kernel] at h)
      have D5 := Lib.hid (fun W : World => show Calls Tryd.prog 28 #[.string ⟨(O).toArray⟩, .int .i64 1023] W fun e w' => e = .returned (.tuple #[.string ⟨(R).toArray⟩, .int .i64 0]) ∧ Below W.heap.size W w' from by
        have h := down_any W O mO 1023 (by decide)
        rwa [d2, d1] at h)
      have I1 := Lib.hid (fun W : World => show Calls Tryd.prog 18 #[.string ⟨(O).toArray⟩] W fun e w' => e = .returned (.bool true) ∧ Below W.heap.size W w' from by
        have h := is_any W O mO
        rwa [bO] at h)
      have I2 := Lib.hid (fun W : World => show Calls Tryd.prog 18 #[.string ⟨(O1).toArray⟩] W fun e w' => e = .returned (.bool false) ∧ Below W.heap.size W w' from by
        have h := is_any W O1 mO1
        rwa [bO1] at h)
      have C1 := Lib.hid (fun W : World => show Calls Tryd.prog 20 #[.string ⟨([98] : List UInt8).toArray⟩, .string ⟨([97] : List UInt8).toArray⟩] W fun e w' => e = .returned (.int .i64 1) ∧ w' = W from by
        have h := cmp_any W [98] [97] (by decide) (by decide)
        rwa [show cmpB [98] [97] = 1 by decide +kernel] at h)
      have C2 := Lib.hid (fun W : World => show Calls Tryd.prog 20 #[.string ⟨([] : List UInt8).toArray⟩, .string ⟨([255] : List UInt8).toArray⟩] W fun e w' => e = .returned (.int .i64 (-1)) ∧ w' = W from by
        have h := cmp_any W [] [255] (by decide) (by decide)
        rwa [show cmpB [] [255] = -1 by decide +kernel] at h)
      rw [hO, hZ]
      clear hO hZ hP hQ hQ5 hO1 hR bO bP bQ bQ5 bO1 n1 n2 n3 n4 q1 u1 u1' u2 u2' u3 u3' f1 v1 v1' d1 d2 mO mP mQ mQ5 mO1
      go_wp2_with (first
        | (go_at_call_of 22 (Value.string ⟨O.toArray⟩); refine (N1.out _).mono ?_; rintro e w1 ⟨rfl, hb⟩; have HB2 := Lib.hid (HB.out.trans (hb.mono HB.out.size)); clear hb HB; have HB := HB2; clear HB2)
        | (go_at_call_of 22 (Value.string ⟨P.toArray⟩); refine (N2.out _).mono ?_; rintro e w1 ⟨rfl, hb⟩; have HB2 := Lib.hid (HB.out.trans (hb.mono HB.out.size)); clear hb HB; have HB := HB2; clear HB2)
        | (go_at_call_of 22 (Value.string ⟨O1.toArray⟩); refine (N3.out _).mono ?_; rintro e w1 ⟨rfl, hb⟩; have HB2 := Lib.hid (HB.out.trans (hb.mono HB.out.size)); clear hb HB; have HB := HB2; clear HB2)
        | (go_at_call_of 22 (Value.string ⟨([50] : List UInt8).toArray⟩); refine (N4.out _).mono ?_; rintro e w1 ⟨rfl, hb⟩; have HB2 := Lib.hid (HB.out.trans (hb.mono HB.out.size)); clear hb HB; have HB := HB2; clear HB2)
        | (go_at_call_of 14 (Value.string ⟨Q.toArray⟩); refine (U1.out _).mono ?_; rintro e w1 ⟨rfl, hb⟩; have HB2 := Lib.hid (HB.out.trans (hb.mono HB.out.size)); clear hb HB; have HB := HB2; clear HB2)
        | (go_at_call_of 14 (Value.string ⟨Q5.toArray⟩); refine (U2.out _).mono ?_; rintro e w1 ⟨rfl, hb⟩; have HB2 := Lib.hid (HB.out.trans (hb.mono HB.out.size)); clear hb HB; have HB := HB2; clear HB2)
        | (go_at_call_of 14 (Value.string ⟨([48, 32] : List UInt8).toArray⟩); refine (U3.out _).mono ?_; rintro e w1 ⟨rfl, hb⟩; have HB2 := Lib.hid (HB.out.trans (hb.mono HB.out.size)); clear hb HB; have HB := HB2; clear HB2)
        | (go_at_call_of 16 (Value.int .i64 64); refine (F1.out _).mono ?_; rintro e w1 ⟨rfl, hb⟩; have HB2 := Lib.hid (HB.out.trans (hb.mono HB.out.size)); clear hb HB; have HB := HB2; clear HB2)
        | (go_at_call_of 16 (Value.int .i64 63); refine (F2.out _).mono ?_; rintro e w1 ⟨rfl, hb⟩; have HB2 := Lib.hid (HB.out.trans (hb.mono HB.out.size)); clear hb HB; have HB := HB2; clear HB2)
        | (go_at_call_of 16 (Value.int .i64 65); refine (F3.out _).mono ?_; rintro e w1 ⟨rfl, hb⟩; have HB2 := Lib.hid (HB.out.trans (hb.mono HB.out.size)); clear hb HB; have HB := HB2; clear HB2)
        | (go_at_call_of 16 (Value.int .i64 0); refine (F5.out _).mono ?_; rintro e w1 ⟨rfl, hb⟩; have HB2 := Lib.hid (HB.out.trans (hb.mono HB.out.size)); clear hb HB; have HB := HB2; clear HB2)
        | (go_at_call 16; refine (F4.out _).mono ?_; rintro e w1 ⟨rfl, hb⟩; have HB2 := Lib.hid (HB.out.trans (hb.mono HB.out.size)); clear hb HB; have HB := HB2; clear HB2))
      obtain ⟨wt, hwt⟩ : ∃ x : World, x = w1 := ⟨_, rfl⟩
      subst hwt
      go_loopw [196] (fun i wr => ∃ k : Nat, k ≤ 11 ∧ i = .int .i64 k ∧ Below w.heap.size w wr ∧ wt.heap.size < wr.heap.size ∧ BRows wt.heap.size 11 wr) (fun i _ => 11 - (intOf i).toNat)
      case atStart =>
        exact ⟨0, by omega, rfl, HB.out.alloc HB.out.size _, by simp, brows_of _ _ _ 11 (by
          intro k hk
          have hk : k = 0 ∨ k = 1 ∨ k = 2 ∨ k = 3 ∨ k = 4 ∨ k = 5 ∨ k = 6 ∨ k = 7 ∨ k = 8 ∨ k = 9 ∨ k = 10 := by omega
          rcases hk with rfl | rfl | rfl | rfl | rfl | rfl | rfl | rfl | rfl | rfl | rfl
          · exact ⟨[], 0, 0, 1, rfl, rfl, rfl, rfl, by decide, by decide, by decide, by decide +kernel⟩
          · exact ⟨[49], 0, 0, 1, rfl, rfl, rfl, rfl, by decide, by decide, by decide, by decide +kernel⟩
          · exact ⟨[49], 0, 1, 0, rfl, rfl, rfl, rfl, by decide, by decide, by decide, by decide +kernel⟩
          · exact ⟨[49], 1, 1, 1, rfl, rfl, rfl, rfl, by decide, by decide, by decide, by decide +kernel⟩
          · exact ⟨[49], -1, 1, 1, rfl, rfl, rfl, rfl, by decide, by decide, by decide, by decide +kernel⟩
          · exact ⟨[49, 49], 1, 2, 1, rfl, rfl, rfl, rfl, by decide, by decide, by decide, by decide +kernel⟩
          · exact ⟨[49, 49], 0, 2, 0, rfl, rfl, rfl, rfl, by decide, by decide, by decide, by decide +kernel⟩
          · exact ⟨[49, 49], 9223372036854775807, 2, 1, rfl, rfl, rfl, rfl, by decide, by decide, by decide, by decide +kernel⟩
          · exact ⟨[49, 49], 0, 9223372036854775807, 1, rfl, rfl, rfl, rfl, by decide, by decide, by decide, by decide +kernel⟩
          · exact ⟨[49, 49], 1, -9223372036854775808, 1, rfl, rfl, rfl, rfl, by decide, by decide, by decide, by decide +kernel⟩
          · exact ⟨[49, 97], 0, 1, 3, rfl, rfl, rfl, rfl, by decide, by decide, by decide, by decide +kernel⟩)⟩
      case round =>
        obtain ⟨k, hk, rfl, hb, hg, hr⟩ := hrel
        obtain ⟨wr1, rfl⟩ : ∃ x : World, x = wr := ⟨_, rfl⟩
        clear HB
        have HB := Lib.hid hb
        have HG := Lib.hid hg
        have HR := Lib.hid hr
        clear hb hg hr
        by_cases hlt : k < 11
        · obtain ⟨l, a, m, er, c0, c1, c2, c3, hl, wa, wm, he⟩ := HR.out k hlt
          have HC := Lib.hid (fun W : World => cut_any W l hl a m wa wm)
          have HK := Lib.hid (fun W : World => clear_any W l hl a m wa wm)
          rw [he] at HC HK
          obtain ⟨cv, hcv⟩ : ∃ x, cutV l a m = x := ⟨_, rfl⟩
          obtain ⟨kv, hkv⟩ : ∃ x, clearV l a m = x := ⟨_, rfl⟩
          rw [hcv] at HC
          rw [hkv] at HK
          clear hl wa wm he hcv hkv
          go_wp2_with fail
          clear c0 c1 c2 c3
          generalize hwb : World.alloc wr1 _ = wb
          have hbb : Below wr1.heap.size wr1 wb := by rw [← hwb]; exact (Below.refl _ _).alloc (Nat.le_refl _) _
          have hx : wb.cell? ⟨wr1.heap.size, 0, none⟩ = some (.string ⟨l.toArray⟩) ∧ wb.cell? ⟨wr1.heap.size, 1, none⟩ = some (.int .i64 a) ∧ wb.cell? ⟨wr1.heap.size, 2, none⟩ = some (.int .i64 m) ∧ wb.cell? ⟨wr1.heap.size, 3, none⟩ = some (.int .i64 er) ∧ wr1.heap.size < wb.heap.size := by
            rw [← hwb]; clear hwb hbb; refine ⟨?_, ?_, ?_, ?_, ?_⟩ <;> go_simp
          clear hwb
          obtain ⟨x0, x1, x2, x3, hlt2⟩ := hx
          go_at_call 24
          refine (HC.out _).mono ?_
          rintro e v2 ⟨rfl, h2⟩
          have y0 := (h2.cell (p := ⟨wr1.heap.size, 0, none⟩) hlt2).trans x0
          have y1 := (h2.cell (p := ⟨wr1.heap.size, 1, none⟩) hlt2).trans x1
          have y2 := (h2.cell (p := ⟨wr1.heap.size, 2, none⟩) hlt2).trans x2
          have y3 := (h2.cell (p := ⟨wr1.heap.size, 3, none⟩) hlt2).trans x3
          have HH2 := Lib.hid h2
          clear x0 x1 x2 x3 h2
          go_wp2_with fail
          go_at_call 26
          refine (HK.out _).mono ?_
          rintro e v3 ⟨rfl, h3⟩
          have hlt3 : wr1.heap.size < v2.heap.size := Nat.lt_of_lt_of_le hlt2 HH2.out.size
          have z3 := (h3.cell (p := ⟨wr1.heap.size, 3, none⟩) hlt3).trans y3
          have hend := hbb.trans ((HH2.out.trans (h3.mono HH2.out.size)).mono hbb.size)
          have HE := Lib.hid hend
          clear y0 y1 y2 y3 h3 hend hbb HH2
          go_wp2
          go_roundw
          case rel => exact ⟨k + 1, by omega, by go_num, HB.out.trans (HE.out.mono HB.out.size), Nat.lt_of_lt_of_le HG.out HE.out.size, HR.out.below HG.out HE.out⟩
          case measure => simp [intOf]; omega
        · have hk : k = 11 := by omega
          subst hk
          clear HR HG
          go_wp2_with (first
            | (go_at_call_of 28 (Value.int .i64 2); refine (D1.out _).mono ?_; rintro e w1 ⟨rfl, hb⟩; have HB2 := Lib.hid (HB.out.trans (hb.mono HB.out.size)); clear hb HB; have HB := HB2; clear HB2)
            | (go_at_call_of 28 (Value.int .i64 1); refine (D2.out _).mono ?_; rintro e w1 ⟨rfl, hb⟩; have HB2 := Lib.hid (HB.out.trans (hb.mono HB.out.size)); clear hb HB; have HB := HB2; clear HB2)
            | (go_at_call_of 28 (Value.int .i64 0); refine (D4.out _).mono ?_; rintro e w1 ⟨rfl, hb⟩; have HB2 := Lib.hid (HB.out.trans (hb.mono HB.out.size)); clear hb HB; have HB := HB2; clear HB2)
            | (go_at_call_of 28 (Value.int .i64 1023); refine (D5.out _).mono ?_; rintro e w1 ⟨rfl, hb⟩; have HB2 := Lib.hid (HB.out.trans (hb.mono HB.out.size)); clear hb HB; have HB := HB2; clear HB2)
            | (go_at_call 28; refine (D3.out _).mono ?_; rintro e w1 ⟨rfl, hb⟩; have HB2 := Lib.hid (HB.out.trans (hb.mono HB.out.size)); clear hb HB; have HB := HB2; clear HB2)
            | (go_at_call_of 18 (Value.string ⟨O.toArray⟩); refine (I1.out _).mono ?_; rintro e w1 ⟨rfl, hb⟩; have HB2 := Lib.hid (HB.out.trans (hb.mono HB.out.size)); clear hb HB; have HB := HB2; clear HB2)
            | (go_at_call_of 18 (Value.string ⟨O1.toArray⟩); refine (I2.out _).mono ?_; rintro e w1 ⟨rfl, hb⟩; have HB2 := Lib.hid (HB.out.trans (hb.mono HB.out.size)); clear hb HB; have HB := HB2; clear HB2)
            | (go_at_call_of 20 (Value.string ⟨([98] : List UInt8).toArray⟩); refine (C1.out _).mono ?_; rintro e w1 ⟨rfl, rfl⟩)
            | (go_at_call_of 20 (Value.string ⟨([255] : List UInt8).toArray⟩); refine (C2.out _).mono ?_; rintro e w1 ⟨rfl, rfl⟩))
          go_ret
          first
            | exact ⟨rfl, HB.out⟩
            | (refine ⟨?_, HB.out⟩; simp)
set_option maxRecDepth 100000 in
theorem lifted (os : Os) (started : os.Started) (H : Type) (enc : TypeId × Value → H) :
    ReturnsInHanded {} Tryd.checked os 6 .any (fun w args => (Rows.bitsNamesSpec.pre enc Tryd.prog Tryd.f6 Rows.bitsNamesRow.domain false w args ∧ laidMetH Tryd.prog Rows.bitsNamesRow.laid w) ∧ sizedMet enc Tryd.prog Tryd.f6 (OpenSpec.ofChange Rows.bitsNamesSpec) false w args) (Rows.bitsNamesSpec.post enc Tryd.prog Tryd.f6 false true false false) := by
  refine returnsInHanded_of_change_and (C := Tryd.checked) (X := fun w _ => laidMetH Tryd.prog Rows.bitsNamesRow.laid w) (fun _ _ _ hh h => h.of_heap hh) own started (by kernel_rfl) Tryd.func6
    (ChangeSpec.witness_shaped (enc := enc) (C := Tryd.checked) (os := os) (X := fun w _ => laidMetH Tryd.prog Rows.bitsNamesRow.laid w) false (World.laidAll Tryd.prog os Rows.bitsNamesRow.laid) #[] 8 (World.laidAll_os _ _ _)
      (World.shaped_of_ZipB (by kernel_rfl) (by kernel_rfl)) (by kernel_rfl) (by kernel_rfl) (by kernel_rfl)
      (by rw [MakeChecks.laidMetH_plain _ _ _ (by kernel_rfl)]; exact laidMet_laidAll _ (by kernel_rfl) (by kernel_rfl))) ?_
  intro W base args ds gs before hval0 hW hcnd _ _ _
  have hval : ∀ (j : Nat) t v, Tryd.f6.params[j]? = some t → args[j]? = some v → Value.okWide Tryd.prog W .any base t v := hval0
  have hW' := hW
  obtain ⟨p, q, hA0, hV, hpq, hfz, hnd⟩ := hW
  have hA : DataW.TrodAll enc Tryd.prog W 0 (fun _ => true) true Tryd.f6.params.toList args.toList ds p := hA0
  rw [Tryd.params6] at hA hval
  obtain ⟨hargs, rfl, rfl⟩ := trodAll_nil hA
  obtain rfl : args = #[] := by cases args; simp_all
  obtain ⟨rfl, rfl⟩ := trodVars_none hV
  refine (walk W ).mono fun e W' ⟨he, hb⟩ => ?_
  subst he
  exact ⟨_, rfl, Frame.close laidOut hW' rfl rfl rfl Tryd.underlying4 (fun t ht => by rw [Tryd.params6] at ht; cases ht) hb⟩
theorem over : Rows.bitsNamesRow.holds Tryd.pinned (OpenSpec.ofChange Rows.bitsNamesSpec) :=
  OpenClaim.holds_of_wide 6 Tryd.f6 rfl rfl rfl rfl rfl rfl rfl ⟨rfl, rfl, rfl, rfl, rfl⟩ rfl rfl rfl rfl rfl (by kernel_rfl) Tryd.func6 (by kernel_rfl)
    (of_decide_eq_true (by kernel_rfl)) (by unfold Func.isWrapper; first | (rw [if_pos (by decide +kernel)]; kernel_rfl) | (rw [if_neg (by decide +kernel)]; exact ⟨rfl, rfl⟩))
    (fun os started H enc _ => lifted os started H enc)
/-- the statement -/
theorem proved : Rows.BitsNamesCardSaid :=
  Claim7.holds_tied_plain_at .later [] _ _ _ _ over (fun _ h => by cases h) (by kernel_rfl) (fun _ h => by cases h) bitsNames_row_tie rfl ⟨rfl, rfl⟩ (by kernel_rfl) rfl
    (fun f fn hf hfn => by
      obtain rfl : f = 6 := Option.some.inj ((show Tryd.prog.funcNamed "tombola/tombolalaw07.BitsNames" = some 6 by kernel_rfl).symm.trans hf) |>.symm
      obtain rfl : fn = Tryd.f6 := (Option.some.inj (Tryd.func6.symm.trans hfn)).symm
      exact ⟨by kernel_rfl, (fun j t ht => by rw [Tryd.params6] at ht; cases ht)⟩)
    (by kernel_rfl)
#print axioms proved
end Go.Proofs.YtcpkkceoobioiaaDoor.bitsNames
