/-
  PROVED: the statement BitsBack (tombolalaw07.BitsBack) about the landed commit: for every input the law returns true and leaves its arguments as they were. Conditions: none beyond those that the given row itself prints.
-/
import Derived.Test.YtcpkkceoobioiaaDoorCards
import Derived.Test.YtcpkkceoobioiaaDoorTie
import Derived.LaidMore
import Derived.Lay
import Derived.SevenTiedAt
import Derived.Stop.Joined
import Derived.Test.YtcpkkceoobioiaaDoorRows
import Derived.WalkKit
import Derived.ProofKit
import Derived.OpenShut
import Derived.RowKit3
import Derived.Test.YtcpkkceoobioiaaDoorGFrame
import Derived.Test.YtcpkkceoobioiaaDoorBitAwake
import Derived.Test.YtcpkkceoobioiaaDoorBitMath2
namespace Go.Proofs.YtcpkkceoobioiaaDoor.bitsBack
open Go.ChangeShapes Go.WideShapes Go.ChangeAt Go.RowKit
set_option linter.unusedVariables false
set_option linter.unusedSimpArgs false
set_option maxRecDepth 20000
open N
theorem own : ownKnob Tryd.prog.godebug = none := by kernel_rfl
theorem wf_u64 (x : Nat) (h : x < 18446744073709551616) : (Lit.int .u64 (x : Int)).wf = true := by
  simp [Lit.wf, IntKind.min, IntKind.max, IntKind.signed, IntKind.bits]; omega
set_option maxRecDepth 100000 in
set_option maxHeartbeats 40000000 in
theorem walk (w : World) (a0 : Int) (w0 : (Lit.int .u64 a0).wf = true) (a1 : Int) (w1 : (Lit.int .i64 a1).wf = true) (b2 : List UInt8) (l2 : b2.length ≤ maxLen) (b3 : List UInt8) (l3 : b3.length ≤ maxLen) :
    Calls Tryd.prog 12 #[.int .u64 a0, .int .i64 a1, .string ⟨b2.toArray⟩, .string ⟨b3.toArray⟩] w fun e w' => e = .returned (.bool true) ∧ Below w.heap.size w w' := by
  have lm2 := l2
  unfold maxLen at lm2
  have lm3 := l3
  unfold maxLen at lm3
  have ba := bounds_u64 w0
  have HB := Lib.hid (Below.refl w.heap.size w)
  by_cases hl : b2.length ≤ 3000 ∧ b3.length ≤ 3000
  · obtain ⟨hl0, hl1⟩ := hl
    by_cases hf : ofFits a0 a1
    · obtain ⟨f1, f2, f3, f4, f5⟩ := of_back hf ba.1
      obtain ⟨u, hu⟩ : ∃ u, ofV a0 a1 = u := ⟨_, rfl⟩
      rw [hu] at f1 f2 f3 f4
      have mu : u.length ≤ maxLen := by have := (isB_iff.1 f2).1; unfold maxLen; omega
      have H1 := Lib.hid (fun W : World => show Calls Tryd.prog 16 #[.int .u64 a0, .int .i64 a1] W fun e w' => e = .returned (.tuple #[.string ⟨u.toArray⟩, .int .i64 0]) ∧ Below W.heap.size W w' from by
        have h := of_any W a0 a1 w0 w1
        rwa [hu, f5] at h)
      have H2 := Lib.hid (fun W : World => show Calls Tryd.prog 14 #[.string ⟨u.toArray⟩] W fun e w' => e = .returned (.tuple #[.int .u64 a0, .int .i64 0]) ∧ Below W.heap.size W w' from by
        have h := num_any W u mu
        rwa [f3, f4] at h)
      have H3 := Lib.hid (fun W : World => show Calls Tryd.prog 18 #[.string ⟨u.toArray⟩] W fun e w' => e = .returned (.bool true) ∧ Below W.heap.size W w' from by
        have h := is_any W u mu
        rwa [f2] at h)
      clear hu f2 f3 f4 f5 hf
      obtain ⟨e2, he⟩ : ∃ e, nuE b2 = e := ⟨_, rfl⟩
      by_cases he2 : nuE b2 = 0
      · obtain ⟨hB2, hl64, hv2⟩ := nu_good he2
        obtain ⟨hv5, he5⟩ := of_num hB2 hl64
        obtain ⟨x, hx⟩ : ∃ x, numB b2 = x := ⟨_, rfl⟩
        rw [hx] at hv2 hv5 he5
        have hx64 : x < 18446744073709551616 := by
          have h1 := numB_lt (isB_bits hB2)
          have h2 := Nat.pow_le_pow_right (n := 2) (by decide) hl64
          omega
        have wx : (Lit.int .u64 (x : Int)).wf = true := wf_u64 x hx64
        have wl := wf_small b2.length (by omega)
        have H4 := Lib.hid (fun W : World => show Calls Tryd.prog 14 #[.string ⟨b2.toArray⟩] W fun e w' => e = .returned (.tuple #[.int .u64 (x : Int), .int .i64 0]) ∧ Below W.heap.size W w' from by
          have h := num_any W b2 l2
          rwa [hv2, he2] at h)
        have H5 := Lib.hid (fun W : World => show Calls Tryd.prog 16 #[.int .u64 (x : Int), .int .i64 (b2.length : Int)] W fun e w' => e = .returned (.tuple #[.string ⟨b2.toArray⟩, .int .i64 0]) ∧ Below W.heap.size W w' from by
          have h := of_any W x b2.length wx wl
          rwa [hv5, he5] at h)
        clear hv2 hv5 he5 he2 he wx wl
        obtain ⟨e3, he3e⟩ : ∃ e, nuE b3 = e := ⟨_, rfl⟩
        by_cases he3 : nuE b3 = 0
        · obtain ⟨hB3, hl643, hv3⟩ := nu_good he3
          obtain ⟨y, hy⟩ : ∃ y, numB b3 = y := ⟨_, rfl⟩
          rw [hy] at hv3
          have H6 := Lib.hid (fun W : World => show Calls Tryd.prog 14 #[.string ⟨b3.toArray⟩] W fun e w' => e = .returned (.tuple #[.int .u64 (y : Int), .int .i64 0]) ∧ Below W.heap.size W w' from by
            have h := num_any W b3 l3
            rwa [hv3, he3] at h)
          clear hv3 he3 he3e
          by_cases hlen : b2.length = b3.length
          · have hcm := num_cmp hB2 hB3 hlen
            rw [hx, hy] at hcm
            have hle : (((b2.length : Nat) : Int) != ((b3.length : Nat) : Int)) = false := by simp [hlen]
            clear hx hy hlen
            rcases hcm with ⟨hc, hxy, hne⟩ | ⟨hc, hxy, hne⟩ | ⟨hc, hxy, hne⟩
            · have hbe : (b2 == b3) = false := by simpa using hne
              have hq : ((x : Int) == (y : Int)) = false := by simp; omega
              have hq2 : (x : Int) < (y : Int) := by omega
              go_enter Tryd.func12, Tryd.ntmps12
              go_wp2_with (first
                | (go_at_call 13; refine (bawake _).mono ?_; rintro e w1 ⟨rfl, hb⟩; have HB2 := Lib.hid (HB.out.trans (hb.mono HB.out.size)); clear hb HB; have HB := HB2; clear HB2)
                | (go_at_call_of 16 (Value.int .u64 a0); refine (H1.out _).mono ?_; rintro e w1 ⟨rfl, hb⟩; have HB2 := Lib.hid (HB.out.trans (hb.mono HB.out.size)); clear hb HB; have HB := HB2; clear HB2)
                | (go_at_call_of 14 (Value.string ⟨u.toArray⟩); refine (H2.out _).mono ?_; rintro e w1 ⟨rfl, hb⟩; have HB2 := Lib.hid (HB.out.trans (hb.mono HB.out.size)); clear hb HB; have HB := HB2; clear HB2)
                | (go_at_call_of 18 (Value.string ⟨u.toArray⟩); refine (H3.out _).mono ?_; rintro e w1 ⟨rfl, hb⟩; have HB2 := Lib.hid (HB.out.trans (hb.mono HB.out.size)); clear hb HB; have HB := HB2; clear HB2)
                | (go_at_call_of 14 (Value.string ⟨b2.toArray⟩); refine (H4.out _).mono ?_; rintro e w1 ⟨rfl, hb⟩; have HB2 := Lib.hid (HB.out.trans (hb.mono HB.out.size)); clear hb HB; have HB := HB2; clear HB2)
                | (go_at_call_of 16 (Value.int .u64 (x : Int)); refine (H5.out _).mono ?_; rintro e w1 ⟨rfl, hb⟩; have HB2 := Lib.hid (HB.out.trans (hb.mono HB.out.size)); clear hb HB; have HB := HB2; clear HB2)
                | (go_at_call_of 14 (Value.string ⟨b3.toArray⟩); refine (H6.out _).mono ?_; rintro e w1 ⟨rfl, hb⟩; have HB2 := Lib.hid (HB.out.trans (hb.mono HB.out.size)); clear hb HB; have HB := HB2; clear HB2)
                | (go_at_call 20; refine (cmp_any _ _ _ (by assumption) (by assumption)).mono ?_; rintro e w1 ⟨rfl, rfl⟩))
              go_ret
              first
                | exact ⟨rfl, HB.out⟩
                | (refine ⟨?_, HB.out⟩; simp)
            · have hbe : (b2 == b3) = true := by rw [hne]; exact beq_self_eq_true b3
              have hq : ((x : Int) == (y : Int)) = true := by simp; omega
              have hq2 : ¬ ((x : Int) < (y : Int)) := by omega
              have hq3 : y ≤ x := by omega
              have hq4 : ¬ x < y := by omega
              clear hne hxy
              go_enter Tryd.func12, Tryd.ntmps12
              go_wp2_with (first
                | (go_at_call 13; refine (bawake _).mono ?_; rintro e w1 ⟨rfl, hb⟩; have HB2 := Lib.hid (HB.out.trans (hb.mono HB.out.size)); clear hb HB; have HB := HB2; clear HB2)
                | (go_at_call_of 16 (Value.int .u64 a0); refine (H1.out _).mono ?_; rintro e w1 ⟨rfl, hb⟩; have HB2 := Lib.hid (HB.out.trans (hb.mono HB.out.size)); clear hb HB; have HB := HB2; clear HB2)
                | (go_at_call_of 14 (Value.string ⟨u.toArray⟩); refine (H2.out _).mono ?_; rintro e w1 ⟨rfl, hb⟩; have HB2 := Lib.hid (HB.out.trans (hb.mono HB.out.size)); clear hb HB; have HB := HB2; clear HB2)
                | (go_at_call_of 18 (Value.string ⟨u.toArray⟩); refine (H3.out _).mono ?_; rintro e w1 ⟨rfl, hb⟩; have HB2 := Lib.hid (HB.out.trans (hb.mono HB.out.size)); clear hb HB; have HB := HB2; clear HB2)
                | (go_at_call_of 14 (Value.string ⟨b2.toArray⟩); refine (H4.out _).mono ?_; rintro e w1 ⟨rfl, hb⟩; have HB2 := Lib.hid (HB.out.trans (hb.mono HB.out.size)); clear hb HB; have HB := HB2; clear HB2)
                | (go_at_call_of 16 (Value.int .u64 (x : Int)); refine (H5.out _).mono ?_; rintro e w1 ⟨rfl, hb⟩; have HB2 := Lib.hid (HB.out.trans (hb.mono HB.out.size)); clear hb HB; have HB := HB2; clear HB2)
                | (go_at_call_of 14 (Value.string ⟨b3.toArray⟩); refine (H6.out _).mono ?_; rintro e w1 ⟨rfl, hb⟩; have HB2 := Lib.hid (HB.out.trans (hb.mono HB.out.size)); clear hb HB; have HB := HB2; clear HB2)
                | (go_at_call 20; refine (cmp_any _ _ _ (by assumption) (by assumption)).mono ?_; rintro e w1 ⟨rfl, rfl⟩))
              go_ret
              first
                | exact ⟨rfl, HB.out⟩
                | (refine ⟨?_, HB.out⟩; simp)
            · have hbe : (b2 == b3) = false := by simpa using hne
              have hq : ((x : Int) == (y : Int)) = false := by simp; omega
              have hq2 : ¬ ((x : Int) < (y : Int)) := by omega
              have hq3 : y ≤ x := by omega
              have hq4 : ¬ x < y := by omega
              go_enter Tryd.func12, Tryd.ntmps12
              go_wp2_with (first
                | (go_at_call 13; refine (bawake _).mono ?_; rintro e w1 ⟨rfl, hb⟩; have HB2 := Lib.hid (HB.out.trans (hb.mono HB.out.size)); clear hb HB; have HB := HB2; clear HB2)
                | (go_at_call_of 16 (Value.int .u64 a0); refine (H1.out _).mono ?_; rintro e w1 ⟨rfl, hb⟩; have HB2 := Lib.hid (HB.out.trans (hb.mono HB.out.size)); clear hb HB; have HB := HB2; clear HB2)
                | (go_at_call_of 14 (Value.string ⟨u.toArray⟩); refine (H2.out _).mono ?_; rintro e w1 ⟨rfl, hb⟩; have HB2 := Lib.hid (HB.out.trans (hb.mono HB.out.size)); clear hb HB; have HB := HB2; clear HB2)
                | (go_at_call_of 18 (Value.string ⟨u.toArray⟩); refine (H3.out _).mono ?_; rintro e w1 ⟨rfl, hb⟩; have HB2 := Lib.hid (HB.out.trans (hb.mono HB.out.size)); clear hb HB; have HB := HB2; clear HB2)
                | (go_at_call_of 14 (Value.string ⟨b2.toArray⟩); refine (H4.out _).mono ?_; rintro e w1 ⟨rfl, hb⟩; have HB2 := Lib.hid (HB.out.trans (hb.mono HB.out.size)); clear hb HB; have HB := HB2; clear HB2)
                | (go_at_call_of 16 (Value.int .u64 (x : Int)); refine (H5.out _).mono ?_; rintro e w1 ⟨rfl, hb⟩; have HB2 := Lib.hid (HB.out.trans (hb.mono HB.out.size)); clear hb HB; have HB := HB2; clear HB2)
                | (go_at_call_of 14 (Value.string ⟨b3.toArray⟩); refine (H6.out _).mono ?_; rintro e w1 ⟨rfl, hb⟩; have HB2 := Lib.hid (HB.out.trans (hb.mono HB.out.size)); clear hb HB; have HB := HB2; clear HB2)
                | (go_at_call 20; refine (cmp_any _ _ _ (by assumption) (by assumption)).mono ?_; rintro e w1 ⟨rfl, rfl⟩))
              go_ret
              first
                | exact ⟨rfl, HB.out⟩
                | (refine ⟨?_, HB.out⟩; simp)
          · have hle : (((b2.length : Nat) : Int) != ((b3.length : Nat) : Int)) = true := by simp; omega
            clear hx hy
            go_enter Tryd.func12, Tryd.ntmps12
            go_wp2_with (first
              | (go_at_call 13; refine (bawake _).mono ?_; rintro e w1 ⟨rfl, hb⟩; have HB2 := Lib.hid (HB.out.trans (hb.mono HB.out.size)); clear hb HB; have HB := HB2; clear HB2)
              | (go_at_call_of 16 (Value.int .u64 a0); refine (H1.out _).mono ?_; rintro e w1 ⟨rfl, hb⟩; have HB2 := Lib.hid (HB.out.trans (hb.mono HB.out.size)); clear hb HB; have HB := HB2; clear HB2)
              | (go_at_call_of 14 (Value.string ⟨u.toArray⟩); refine (H2.out _).mono ?_; rintro e w1 ⟨rfl, hb⟩; have HB2 := Lib.hid (HB.out.trans (hb.mono HB.out.size)); clear hb HB; have HB := HB2; clear HB2)
              | (go_at_call_of 18 (Value.string ⟨u.toArray⟩); refine (H3.out _).mono ?_; rintro e w1 ⟨rfl, hb⟩; have HB2 := Lib.hid (HB.out.trans (hb.mono HB.out.size)); clear hb HB; have HB := HB2; clear HB2)
              | (go_at_call_of 14 (Value.string ⟨b2.toArray⟩); refine (H4.out _).mono ?_; rintro e w1 ⟨rfl, hb⟩; have HB2 := Lib.hid (HB.out.trans (hb.mono HB.out.size)); clear hb HB; have HB := HB2; clear HB2)
              | (go_at_call_of 16 (Value.int .u64 (x : Int)); refine (H5.out _).mono ?_; rintro e w1 ⟨rfl, hb⟩; have HB2 := Lib.hid (HB.out.trans (hb.mono HB.out.size)); clear hb HB; have HB := HB2; clear HB2)
              | (go_at_call_of 14 (Value.string ⟨b3.toArray⟩); refine (H6.out _).mono ?_; rintro e w1 ⟨rfl, hb⟩; have HB2 := Lib.hid (HB.out.trans (hb.mono HB.out.size)); clear hb HB; have HB := HB2; clear HB2)
              | (go_at_call 20; refine (cmp_any _ _ _ (by assumption) (by assumption)).mono ?_; rintro e w1 ⟨rfl, rfl⟩))
            go_ret
            first
              | exact ⟨rfl, HB.out⟩
              | (refine ⟨?_, HB.out⟩; simp)
        · clear hx
          have H6 := Lib.hid (fun W : World => show Calls Tryd.prog 14 #[.string ⟨b3.toArray⟩] W fun e w' => e = .returned (.tuple #[.int .u64 0, .int .i64 e3]) ∧ Below W.heap.size W w' from by
            have h := num_any W b3 l3
            rwa [nu_bad he3, he3e] at h)
          have ne3 : (e3 != 0) = true := by rw [← he3e]; simpa using he3
          clear he3 he3e
          go_enter Tryd.func12, Tryd.ntmps12
          go_wp2_with (first
            | (go_at_call 13; refine (bawake _).mono ?_; rintro e w1 ⟨rfl, hb⟩; have HB2 := Lib.hid (HB.out.trans (hb.mono HB.out.size)); clear hb HB; have HB := HB2; clear HB2)
            | (go_at_call_of 16 (Value.int .u64 a0); refine (H1.out _).mono ?_; rintro e w1 ⟨rfl, hb⟩; have HB2 := Lib.hid (HB.out.trans (hb.mono HB.out.size)); clear hb HB; have HB := HB2; clear HB2)
            | (go_at_call_of 14 (Value.string ⟨u.toArray⟩); refine (H2.out _).mono ?_; rintro e w1 ⟨rfl, hb⟩; have HB2 := Lib.hid (HB.out.trans (hb.mono HB.out.size)); clear hb HB; have HB := HB2; clear HB2)
            | (go_at_call_of 18 (Value.string ⟨u.toArray⟩); refine (H3.out _).mono ?_; rintro e w1 ⟨rfl, hb⟩; have HB2 := Lib.hid (HB.out.trans (hb.mono HB.out.size)); clear hb HB; have HB := HB2; clear HB2)
            | (go_at_call_of 14 (Value.string ⟨b2.toArray⟩); refine (H4.out _).mono ?_; rintro e w1 ⟨rfl, hb⟩; have HB2 := Lib.hid (HB.out.trans (hb.mono HB.out.size)); clear hb HB; have HB := HB2; clear HB2)
            | (go_at_call_of 16 (Value.int .u64 (x : Int)); refine (H5.out _).mono ?_; rintro e w1 ⟨rfl, hb⟩; have HB2 := Lib.hid (HB.out.trans (hb.mono HB.out.size)); clear hb HB; have HB := HB2; clear HB2)
            | (go_at_call_of 14 (Value.string ⟨b3.toArray⟩); refine (H6.out _).mono ?_; rintro e w1 ⟨rfl, hb⟩; have HB2 := Lib.hid (HB.out.trans (hb.mono HB.out.size)); clear hb HB; have HB := HB2; clear HB2)
            | (go_at_call 20; refine (cmp_any _ _ _ (by assumption) (by assumption)).mono ?_; rintro e w1 ⟨rfl, rfl⟩))
          go_ret
          first
            | exact ⟨rfl, HB.out⟩
            | (refine ⟨?_, HB.out⟩; simp)
      · have hz := nu_bad he2
        have H4 := Lib.hid (fun W : World => show Calls Tryd.prog 14 #[.string ⟨b2.toArray⟩] W fun e w' => e = .returned (.tuple #[.int .u64 0, .int .i64 e2]) ∧ Below W.heap.size W w' from by
          have h := num_any W b2 l2
          rwa [hz, he] at h)
        have ne2 : (e2 != 0) = true := by rw [← he]; simpa using he2
        clear hz he2 he
        go_enter Tryd.func12, Tryd.ntmps12
        go_wp2_with (first
          | (go_at_call 13; refine (bawake _).mono ?_; rintro e w1 ⟨rfl, hb⟩; have HB2 := Lib.hid (HB.out.trans (hb.mono HB.out.size)); clear hb HB; have HB := HB2; clear HB2)
          | (go_at_call_of 16 (Value.int .u64 a0); refine (H1.out _).mono ?_; rintro e w1 ⟨rfl, hb⟩; have HB2 := Lib.hid (HB.out.trans (hb.mono HB.out.size)); clear hb HB; have HB := HB2; clear HB2)
          | (go_at_call_of 14 (Value.string ⟨u.toArray⟩); refine (H2.out _).mono ?_; rintro e w1 ⟨rfl, hb⟩; have HB2 := Lib.hid (HB.out.trans (hb.mono HB.out.size)); clear hb HB; have HB := HB2; clear HB2)
          | (go_at_call_of 18 (Value.string ⟨u.toArray⟩); refine (H3.out _).mono ?_; rintro e w1 ⟨rfl, hb⟩; have HB2 := Lib.hid (HB.out.trans (hb.mono HB.out.size)); clear hb HB; have HB := HB2; clear HB2)
          | (go_at_call_of 14 (Value.string ⟨b2.toArray⟩); refine (H4.out _).mono ?_; rintro e w1 ⟨rfl, hb⟩; have HB2 := Lib.hid (HB.out.trans (hb.mono HB.out.size)); clear hb HB; have HB := HB2; clear HB2)
          | (go_at_call 20; refine (cmp_any _ _ _ (by assumption) (by assumption)).mono ?_; rintro e w1 ⟨rfl, rfl⟩))
        go_ret
        first
          | exact ⟨rfl, HB.out⟩
          | (refine ⟨?_, HB.out⟩; simp)
    · have e1 : ofV a0 a1 = [] := by unfold ofV; rw [if_neg hf]
      have e1' : ofE a0 a1 = 1 := by unfold ofE; rw [if_neg hf]
      have H1 := Lib.hid (fun W : World => show Calls Tryd.prog 16 #[.int .u64 a0, .int .i64 a1] W fun e w' => e = .returned (.tuple #[.string ⟨#[]⟩, .int .i64 1]) ∧ Below W.heap.size W w' from by
        have h := of_any W a0 a1 w0 w1
        rwa [e1, e1'] at h)
      clear e1 e1' hf
      obtain ⟨e2, he⟩ : ∃ e, nuE b2 = e := ⟨_, rfl⟩
      by_cases he2 : nuE b2 = 0
      · obtain ⟨hB2, hl64, hv2⟩ := nu_good he2
        obtain ⟨hv5, he5⟩ := of_num hB2 hl64
        obtain ⟨x, hx⟩ : ∃ x, numB b2 = x := ⟨_, rfl⟩
        rw [hx] at hv2 hv5 he5
        have hx64 : x < 18446744073709551616 := by
          have h1 := numB_lt (isB_bits hB2)
          have h2 := Nat.pow_le_pow_right (n := 2) (by decide) hl64
          omega
        have wx : (Lit.int .u64 (x : Int)).wf = true := wf_u64 x hx64
        have wl := wf_small b2.length (by omega)
        have H4 := Lib.hid (fun W : World => show Calls Tryd.prog 14 #[.string ⟨b2.toArray⟩] W fun e w' => e = .returned (.tuple #[.int .u64 (x : Int), .int .i64 0]) ∧ Below W.heap.size W w' from by
          have h := num_any W b2 l2
          rwa [hv2, he2] at h)
        have H5 := Lib.hid (fun W : World => show Calls Tryd.prog 16 #[.int .u64 (x : Int), .int .i64 (b2.length : Int)] W fun e w' => e = .returned (.tuple #[.string ⟨b2.toArray⟩, .int .i64 0]) ∧ Below W.heap.size W w' from by
          have h := of_any W x b2.length wx wl
          rwa [hv5, he5] at h)
        clear hv2 hv5 he5 he2 he wx wl
        obtain ⟨e3, he3e⟩ : ∃ e, nuE b3 = e := ⟨_, rfl⟩
        by_cases he3 : nuE b3 = 0
        · obtain ⟨hB3, hl643, hv3⟩ := nu_good he3
          obtain ⟨y, hy⟩ : ∃ y, numB b3 = y := ⟨_, rfl⟩
          rw [hy] at hv3
          have H6 := Lib.hid (fun W : World => show Calls Tryd.prog 14 #[.string ⟨b3.toArray⟩] W fun e w' => e = .returned (.tuple #[.int .u64 (y : Int), .int .i64 0]) ∧ Below W.heap.size W w' from by
            have h := num_any W b3 l3
            rwa [hv3, he3] at h)
          clear hv3 he3 he3e
          by_cases hlen : b2.length = b3.length
          · have hcm := num_cmp hB2 hB3 hlen
            rw [hx, hy] at hcm
            have hle : (((b2.length : Nat) : Int) != ((b3.length : Nat) : Int)) = false := by simp [hlen]
            clear hx hy hlen
            rcases hcm with ⟨hc, hxy, hne⟩ | ⟨hc, hxy, hne⟩ | ⟨hc, hxy, hne⟩
            · have hbe : (b2 == b3) = false := by simpa using hne
              have hq : ((x : Int) == (y : Int)) = false := by simp; omega
              have hq2 : (x : Int) < (y : Int) := by omega
              go_enter Tryd.func12, Tryd.ntmps12
              go_wp2_with (first
                | (go_at_call 13; refine (bawake _).mono ?_; rintro e w1 ⟨rfl, hb⟩; have HB2 := Lib.hid (HB.out.trans (hb.mono HB.out.size)); clear hb HB; have HB := HB2; clear HB2)
                | (go_at_call_of 16 (Value.int .u64 a0); refine (H1.out _).mono ?_; rintro e w1 ⟨rfl, hb⟩; have HB2 := Lib.hid (HB.out.trans (hb.mono HB.out.size)); clear hb HB; have HB := HB2; clear HB2)
                | (go_at_call_of 14 (Value.string ⟨b2.toArray⟩); refine (H4.out _).mono ?_; rintro e w1 ⟨rfl, hb⟩; have HB2 := Lib.hid (HB.out.trans (hb.mono HB.out.size)); clear hb HB; have HB := HB2; clear HB2)
                | (go_at_call_of 16 (Value.int .u64 (x : Int)); refine (H5.out _).mono ?_; rintro e w1 ⟨rfl, hb⟩; have HB2 := Lib.hid (HB.out.trans (hb.mono HB.out.size)); clear hb HB; have HB := HB2; clear HB2)
                | (go_at_call_of 14 (Value.string ⟨b3.toArray⟩); refine (H6.out _).mono ?_; rintro e w1 ⟨rfl, hb⟩; have HB2 := Lib.hid (HB.out.trans (hb.mono HB.out.size)); clear hb HB; have HB := HB2; clear HB2)
                | (go_at_call 20; refine (cmp_any _ _ _ (by assumption) (by assumption)).mono ?_; rintro e w1 ⟨rfl, rfl⟩))
              go_ret
              first
                | exact ⟨rfl, HB.out⟩
                | (refine ⟨?_, HB.out⟩; simp)
            · have hbe : (b2 == b3) = true := by rw [hne]; exact beq_self_eq_true b3
              have hq : ((x : Int) == (y : Int)) = true := by simp; omega
              have hq2 : ¬ ((x : Int) < (y : Int)) := by omega
              have hq3 : y ≤ x := by omega
              have hq4 : ¬ x < y := by omega
              clear hne hxy
              go_enter Tryd.func12, Tryd.ntmps12
              go_wp2_with (first
                | (go_at_call 13; refine (bawake _).mono ?_; rintro e w1 ⟨rfl, hb⟩; have HB2 := Lib.hid (HB.out.trans (hb.mono HB.out.size)); clear hb HB; have HB := HB2; clear HB2)
                | (go_at_call_of 16 (Value.int .u64 a0); refine (H1.out _).mono ?_; rintro e w1 ⟨rfl, hb⟩; have HB2 := Lib.hid (HB.out.trans (hb.mono HB.out.size)); clear hb HB; have HB := HB2; clear HB2)
                | (go_at_call_of 14 (Value.string ⟨b2.toArray⟩); refine (H4.out _).mono ?_; rintro e w1 ⟨rfl, hb⟩; have HB2 := Lib.hid (HB.out.trans (hb.mono HB.out.size)); clear hb HB; have HB := HB2; clear HB2)
                | (go_at_call_of 16 (Value.int .u64 (x : Int)); refine (H5.out _).mono ?_; rintro e w1 ⟨rfl, hb⟩; have HB2 := Lib.hid (HB.out.trans (hb.mono HB.out.size)); clear hb HB; have HB := HB2; clear HB2)
                | (go_at_call_of 14 (Value.string ⟨b3.toArray⟩); refine (H6.out _).mono ?_; rintro e w1 ⟨rfl, hb⟩; have HB2 := Lib.hid (HB.out.trans (hb.mono HB.out.size)); clear hb HB; have HB := HB2; clear HB2)
                | (go_at_call 20; refine (cmp_any _ _ _ (by assumption) (by assumption)).mono ?_; rintro e w1 ⟨rfl, rfl⟩))
              go_ret
              first
                | exact ⟨rfl, HB.out⟩
                | (refine ⟨?_, HB.out⟩; simp)
            · have hbe : (b2 == b3) = false := by simpa using hne
              have hq : ((x : Int) == (y : Int)) = false := by simp; omega
              have hq2 : ¬ ((x : Int) < (y : Int)) := by omega
              have hq3 : y ≤ x := by omega
              have hq4 : ¬ x < y := by omega
              go_enter Tryd.func12, Tryd.ntmps12
              go_wp2_with (first
                | (go_at_call 13; refine (bawake _).mono ?_; rintro e w1 ⟨rfl, hb⟩; have HB2 := Lib.hid (HB.out.trans (hb.mono HB.out.size)); clear hb HB; have HB := HB2; clear HB2)
                | (go_at_call_of 16 (Value.int .u64 a0); refine (H1.out _).mono ?_; rintro e w1 ⟨rfl, hb⟩; have HB2 := Lib.hid (HB.out.trans (hb.mono HB.out.size)); clear hb HB; have HB := HB2; clear HB2)
                | (go_at_call_of 14 (Value.string ⟨b2.toArray⟩); refine (H4.out _).mono ?_; rintro e w1 ⟨rfl, hb⟩; have HB2 := Lib.hid (HB.out.trans (hb.mono HB.out.size)); clear hb HB; have HB := HB2; clear HB2)
                | (go_at_call_of 16 (Value.int .u64 (x : Int)); refine (H5.out _).mono ?_; rintro e w1 ⟨rfl, hb⟩; have HB2 := Lib.hid (HB.out.trans (hb.mono HB.out.size)); clear hb HB; have HB := HB2; clear HB2)
                | (go_at_call_of 14 (Value.string ⟨b3.toArray⟩); refine (H6.out _).mono ?_; rintro e w1 ⟨rfl, hb⟩; have HB2 := Lib.hid (HB.out.trans (hb.mono HB.out.size)); clear hb HB; have HB := HB2; clear HB2)
                | (go_at_call 20; refine (cmp_any _ _ _ (by assumption) (by assumption)).mono ?_; rintro e w1 ⟨rfl, rfl⟩))
              go_ret
              first
                | exact ⟨rfl, HB.out⟩
                | (refine ⟨?_, HB.out⟩; simp)
          · have hle : (((b2.length : Nat) : Int) != ((b3.length : Nat) : Int)) = true := by simp; omega
            clear hx hy
            go_enter Tryd.func12, Tryd.ntmps12
            go_wp2_with (first
              | (go_at_call 13; refine (bawake _).mono ?_; rintro e w1 ⟨rfl, hb⟩; have HB2 := Lib.hid (HB.out.trans (hb.mono HB.out.size)); clear hb HB; have HB := HB2; clear HB2)
              | (go_at_call_of 16 (Value.int .u64 a0); refine (H1.out _).mono ?_; rintro e w1 ⟨rfl, hb⟩; have HB2 := Lib.hid (HB.out.trans (hb.mono HB.out.size)); clear hb HB; have HB := HB2; clear HB2)
              | (go_at_call_of 14 (Value.string ⟨b2.toArray⟩); refine (H4.out _).mono ?_; rintro e w1 ⟨rfl, hb⟩; have HB2 := Lib.hid (HB.out.trans (hb.mono HB.out.size)); clear hb HB; have HB := HB2; clear HB2)
              | (go_at_call_of 16 (Value.int .u64 (x : Int)); refine (H5.out _).mono ?_; rintro e w1 ⟨rfl, hb⟩; have HB2 := Lib.hid (HB.out.trans (hb.mono HB.out.size)); clear hb HB; have HB := HB2; clear HB2)
              | (go_at_call_of 14 (Value.string ⟨b3.toArray⟩); refine (H6.out _).mono ?_; rintro e w1 ⟨rfl, hb⟩; have HB2 := Lib.hid (HB.out.trans (hb.mono HB.out.size)); clear hb HB; have HB := HB2; clear HB2)
              | (go_at_call 20; refine (cmp_any _ _ _ (by assumption) (by assumption)).mono ?_; rintro e w1 ⟨rfl, rfl⟩))
            go_ret
            first
              | exact ⟨rfl, HB.out⟩
              | (refine ⟨?_, HB.out⟩; simp)
        · clear hx
          have H6 := Lib.hid (fun W : World => show Calls Tryd.prog 14 #[.string ⟨b3.toArray⟩] W fun e w' => e = .returned (.tuple #[.int .u64 0, .int .i64 e3]) ∧ Below W.heap.size W w' from by
            have h := num_any W b3 l3
            rwa [nu_bad he3, he3e] at h)
          have ne3 : (e3 != 0) = true := by rw [← he3e]; simpa using he3
          clear he3 he3e
          go_enter Tryd.func12, Tryd.ntmps12
          go_wp2_with (first
            | (go_at_call 13; refine (bawake _).mono ?_; rintro e w1 ⟨rfl, hb⟩; have HB2 := Lib.hid (HB.out.trans (hb.mono HB.out.size)); clear hb HB; have HB := HB2; clear HB2)
            | (go_at_call_of 16 (Value.int .u64 a0); refine (H1.out _).mono ?_; rintro e w1 ⟨rfl, hb⟩; have HB2 := Lib.hid (HB.out.trans (hb.mono HB.out.size)); clear hb HB; have HB := HB2; clear HB2)
            | (go_at_call_of 14 (Value.string ⟨b2.toArray⟩); refine (H4.out _).mono ?_; rintro e w1 ⟨rfl, hb⟩; have HB2 := Lib.hid (HB.out.trans (hb.mono HB.out.size)); clear hb HB; have HB := HB2; clear HB2)
            | (go_at_call_of 16 (Value.int .u64 (x : Int)); refine (H5.out _).mono ?_; rintro e w1 ⟨rfl, hb⟩; have HB2 := Lib.hid (HB.out.trans (hb.mono HB.out.size)); clear hb HB; have HB := HB2; clear HB2)
            | (go_at_call_of 14 (Value.string ⟨b3.toArray⟩); refine (H6.out _).mono ?_; rintro e w1 ⟨rfl, hb⟩; have HB2 := Lib.hid (HB.out.trans (hb.mono HB.out.size)); clear hb HB; have HB := HB2; clear HB2)
            | (go_at_call 20; refine (cmp_any _ _ _ (by assumption) (by assumption)).mono ?_; rintro e w1 ⟨rfl, rfl⟩))
          go_ret
          first
            | exact ⟨rfl, HB.out⟩
            | (refine ⟨?_, HB.out⟩; simp)
      · have hz := nu_bad he2
        have H4 := Lib.hid (fun W : World => show Calls Tryd.prog 14 #[.string ⟨b2.toArray⟩] W fun e w' => e = .returned (.tuple #[.int .u64 0, .int .i64 e2]) ∧ Below W.heap.size W w' from by
          have h := num_any W b2 l2
          rwa [hz, he] at h)
        have ne2 : (e2 != 0) = true := by rw [← he]; simpa using he2
        clear hz he2 he
        go_enter Tryd.func12, Tryd.ntmps12
        go_wp2_with (first
          | (go_at_call 13; refine (bawake _).mono ?_; rintro e w1 ⟨rfl, hb⟩; have HB2 := Lib.hid (HB.out.trans (hb.mono HB.out.size)); clear hb HB; have HB := HB2; clear HB2)
          | (go_at_call_of 16 (Value.int .u64 a0); refine (H1.out _).mono ?_; rintro e w1 ⟨rfl, hb⟩; have HB2 := Lib.hid (HB.out.trans (hb.mono HB.out.size)); clear hb HB; have HB := HB2; clear HB2)
          | (go_at_call_of 14 (Value.string ⟨b2.toArray⟩); refine (H4.out _).mono ?_; rintro e w1 ⟨rfl, hb⟩; have HB2 := Lib.hid (HB.out.trans (hb.mono HB.out.size)); clear hb HB; have HB := HB2; clear HB2)
          | (go_at_call 20; refine (cmp_any _ _ _ (by assumption) (by assumption)).mono ?_; rintro e w1 ⟨rfl, rfl⟩))
        go_ret
        first
          | exact ⟨rfl, HB.out⟩
          | (refine ⟨?_, HB.out⟩; simp)
  · have hl' : (3000 < b2.length) ∨ (b2.length ≤ 3000 ∧ 3000 < b3.length) := by omega
    clear hl
    rcases hl' with g0 | ⟨g0, g1⟩
    · go_enter Tryd.func12, Tryd.ntmps12
      go_wp2_with (first
        | (go_at_call 13; refine (bawake _).mono ?_; rintro e w1 ⟨rfl, hb⟩; have HB2 := Lib.hid (HB.out.trans (hb.mono HB.out.size)); clear hb HB; have HB := HB2; clear HB2))
      go_ret
      first
        | exact ⟨rfl, HB.out⟩
        | (refine ⟨?_, HB.out⟩; simp)
    · go_enter Tryd.func12, Tryd.ntmps12
      go_wp2_with (first
        | (go_at_call 13; refine (bawake _).mono ?_; rintro e w1 ⟨rfl, hb⟩; have HB2 := Lib.hid (HB.out.trans (hb.mono HB.out.size)); clear hb HB; have HB := HB2; clear HB2))
      go_ret
      first
        | exact ⟨rfl, HB.out⟩
        | (refine ⟨?_, HB.out⟩; simp)
set_option maxRecDepth 100000 in
theorem lifted (os : Os) (started : os.Started) (H : Type) (enc : TypeId × Value → H) :
    ReturnsInHanded {} Tryd.checked os 12 .any (fun w args => (Rows.bitsBackSpec.pre enc Tryd.prog Tryd.f12 Rows.bitsBackRow.domain false w args ∧ laidMetH Tryd.prog Rows.bitsBackRow.laid w) ∧ sizedMet enc Tryd.prog Tryd.f12 (OpenSpec.ofChange Rows.bitsBackSpec) false w args) (Rows.bitsBackSpec.post enc Tryd.prog Tryd.f12 false true false false) := by
  refine returnsInHanded_of_change_and (C := Tryd.checked) (X := fun w _ => laidMetH Tryd.prog Rows.bitsBackRow.laid w) (fun _ _ _ hh h => h.of_heap hh) own started (by kernel_rfl) Tryd.func12
    (ChangeSpec.witness_shaped (enc := enc) (C := Tryd.checked) (os := os) (X := fun w _ => laidMetH Tryd.prog Rows.bitsBackRow.laid w) false (World.laidAll Tryd.prog os Rows.bitsBackRow.laid) #[.int .u64 0, .int .i64 0, .string ByteArray.empty, .string ByteArray.empty] 8 (World.laidAll_os _ _ _)
      (World.shaped_of_ZipB (by kernel_rfl) (by kernel_rfl)) (by kernel_rfl) (by kernel_rfl) (by kernel_rfl)
      (by rw [MakeChecks.laidMetH_plain _ _ _ (by kernel_rfl)]; exact laidMet_laidAll _ (by kernel_rfl) (by kernel_rfl))) ?_
  intro W base args ds gs before hval0 hW hcnd _ _ _
  have hval : ∀ (j : Nat) t v, Tryd.f12.params[j]? = some t → args[j]? = some v → Value.okWide Tryd.prog W .any base t v := hval0
  have hW' := hW
  obtain ⟨p, q, hA0, hV, hpq, hfz, hnd⟩ := hW
  have hA : DataW.TrodAll enc Tryd.prog W 0 (fun _ => true) true Tryd.f12.params.toList args.toList ds p := hA0
  rw [Tryd.params12] at hA hval
  obtain ⟨v0, vs0, d0, ds0, p0, q0, hargs, rfl, rfl, h0, r0⟩ := trodAll_cons hA
  obtain ⟨v1, vs1, d1, ds1, p1, q1, rfl, rfl, rfl, h1, r1⟩ := trodAll_cons r0
  obtain ⟨v2, vs2, d2, ds2, p2, q2, rfl, rfl, rfl, h2, r2⟩ := trodAll_cons r1
  obtain ⟨v3, vs3, d3, ds3, p3, q3, rfl, rfl, rfl, h3, r3⟩ := trodAll_cons r2
  obtain ⟨rfl, rfl, rfl⟩ := trodAll_nil r3
  obtain rfl : args = #[v0, v1, v2, v3] := by cases args; simp_all
  obtain ⟨rfl, rfl⟩ := trodVars_none hV
  obtain ⟨a0, rfl, rfl, rfl, w0⟩ := open_int Tryd.underlying22 (hval 0 22 v0 rfl rfl) h0
  obtain ⟨a1, rfl, rfl, rfl, w1⟩ := open_int Tryd.underlying3 (hval 1 3 v1 rfl rfl) h1
  obtain ⟨y2, rfl, rfl, rfl, l2⟩ := Go.ChangeMaps.open_string Tryd.underlying9 (hval 2 9 v2 rfl rfl) h2
  obtain ⟨b2, rfl⟩ : ∃ b : List UInt8, y2 = ⟨b.toArray⟩ := ⟨y2.data.toList, by cases y2; simp⟩
  obtain ⟨y3, rfl, rfl, rfl, l3⟩ := Go.ChangeMaps.open_string Tryd.underlying9 (hval 3 9 v3 rfl rfl) h3
  obtain ⟨b3, rfl⟩ : ∃ b : List UInt8, y3 = ⟨b.toArray⟩ := ⟨y3.data.toList, by cases y3; simp⟩
  refine (walk W a0 w0 a1 w1 b2 l2 b3 l3).mono fun e W' ⟨he, hb⟩ => ?_
  subst he
  exact ⟨_, rfl, Frame.close laidOut hW' rfl rfl rfl Tryd.underlying4 (fun t ht => by rw [Tryd.params12] at ht; simp at ht; rcases ht with rfl | rfl | rfl <;> exact ⟨by kernel_rfl, of_decide_eq_true (by kernel_rfl)⟩) hb⟩
theorem over : Rows.bitsBackRow.holds Tryd.pinned (OpenSpec.ofChange Rows.bitsBackSpec) :=
  OpenClaim.holds_of_wide 12 Tryd.f12 rfl rfl rfl rfl rfl rfl rfl ⟨rfl, rfl, rfl, rfl, rfl⟩ rfl rfl rfl rfl rfl (by kernel_rfl) Tryd.func12 (by kernel_rfl)
    (of_decide_eq_true (by kernel_rfl)) (by unfold Func.isWrapper; first | (rw [if_pos (by decide +kernel)]; kernel_rfl) | (rw [if_neg (by decide +kernel)]; exact ⟨rfl, rfl⟩))
    (fun os started H enc _ => lifted os started H enc)
/-- the statement -/
theorem proved : Rows.BitsBackCardSaid :=
  Claim7.holds_tied_plain_at .later [] _ _ _ _ over (fun _ h => by cases h) (by kernel_rfl) (fun _ h => by cases h) bitsBack_row_tie rfl ⟨rfl, rfl⟩ (by kernel_rfl) rfl
    (fun f fn hf hfn => by
      obtain rfl : f = 12 := Option.some.inj ((show Tryd.prog.funcNamed "tombola/tombolalaw07.BitsBack" = some 12 by kernel_rfl).symm.trans hf) |>.symm
      obtain rfl : fn = Tryd.f12 := (Option.some.inj (Tryd.func12.symm.trans hfn)).symm
      exact ⟨by kernel_rfl, (fun j t ht => by
        rw [Tryd.params12] at ht
        have hm : t ∈ [22, 3, 9, 9] := by simpa using Array.mem_of_getElem? ht
        have hall : ([22, 3, 9, 9].all fun u => !Tryd.prog.wantsStandIn u) = true := by kernel_rfl
        exact (show Tryd.prog.wantsStandIn t = false by simpa using List.all_eq_true.1 hall t hm))⟩)
    (by kernel_rfl)
#print axioms proved
end Go.Proofs.YtcpkkceoobioiaaDoor.bitsBack
