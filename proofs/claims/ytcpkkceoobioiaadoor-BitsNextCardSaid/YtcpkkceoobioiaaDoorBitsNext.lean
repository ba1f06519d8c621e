/-
  PROVED: the statement BitsNext (tombolalaw07.BitsNext) about the landed commit: for every input the law returns true and leaves its arguments as they were. Conditions: none beyond those that the given row itself prints.
-/
import Derived.Test.YtcpkkceoobioiaaDoorCards
import Derived.Test.YtcpkkceoobioiaaDoorTie
import Derived.LaidMore
import Derived.Lay
import Derived.SevenTiedAt
import Derived.Stop.Joined
import Derived.Test.YtcpkkceoobioiaaDoorRows
import Derived.WalkKit
import Derived.ProofKit
import Derived.OpenShut
import Derived.RowKit3
import Derived.Test.YtcpkkceoobioiaaDoorGFrame
import Derived.Test.YtcpkkceoobioiaaDoorBitAwake
import Derived.Test.YtcpkkceoobioiaaDoorBitMath2
namespace Go.Proofs.YtcpkkceoobioiaaDoor.bitsNext
open Go.ChangeShapes Go.WideShapes Go.ChangeAt Go.RowKit
set_option linter.unusedVariables false
set_option linter.unusedSimpArgs false
set_option maxRecDepth 20000
open N
theorem own : ownKnob Tryd.prog.godebug = none := by kernel_rfl
open Lib
set_option maxRecDepth 100000 in
set_option maxHeartbeats 4000000 in
theorem walk (w : World) (b0 : List UInt8) (l0 : b0.length ≤ maxLen) (b1 : List UInt8) (l1 : b1.length ≤ maxLen) :
    Calls Tryd.prog 8 #[.string ⟨b0.toArray⟩, .string ⟨b1.toArray⟩] w fun e w' => e = .returned (.bool true) ∧ Below w.heap.size w w' := by
  have lm0 := l0
  unfold maxLen at lm0
  have lm1 := l1
  unfold maxLen at lm1
  have HB := Lib.hid (Below.refl w.heap.size w)
  by_cases hl : b0.length ≤ 3000 ∧ b1.length ≤ 3000
  · obtain ⟨hl0, hl1⟩ := hl
    by_cases h : isB b0 = true
    · obtain ⟨x, hx⟩ : ∃ x, (nextB b0).1 = x := ⟨_, rfl⟩
      cases hk : (nextB b0).2 with
      | true =>
        have hn : nextB b0 = (x, true) := by rw [← hx, ← hk]
        obtain ⟨hxB, hc, hle⟩ := next_up h hn
        have HN := Lib.hid (fun W : World => show Calls Tryd.prog 22 #[.string ⟨b0.toArray⟩] W fun e w' => e = .returned (.tuple #[.string ⟨(x).toArray⟩, .bool true]) ∧ Below W.heap.size W w' from by
          have h := next_any W b0 l0
          rwa [hn] at h)
        have mx : x.length ≤ maxLen := by have := (isB_iff.1 hxB).1; unfold maxLen; omega
        clear hn hx hk
        cases ht : isB b1 with
        | false =>
          clear hle
          go_enter Tryd.func8, Tryd.ntmps8
          go_wp2_with (first
            | (go_at_call 13; refine (bawake _).mono ?_; rintro e w1 ⟨rfl, hb⟩; have HB2 := Lib.hid (HB.out.trans (hb.mono HB.out.size)); clear hb HB; have HB := HB2; clear HB2)
            | (go_at_call_of 22 (Value.string ⟨([48, 49, 49] : List UInt8).toArray⟩); refine (aw1 _).mono ?_; rintro e w1 ⟨rfl, hb⟩; have HB2 := Lib.hid (HB.out.trans (hb.mono HB.out.size)); clear hb HB; have HB := HB2; clear HB2)
            | (go_at_call_of 22 (Value.string ⟨b0.toArray⟩); refine (HN.out _).mono ?_; rintro e w1 ⟨rfl, hb⟩; have HB2 := Lib.hid (HB.out.trans (hb.mono HB.out.size)); clear hb HB; have HB := HB2; clear HB2)
            | (go_at_call 18; refine (is_any _ _ (by assumption)).mono ?_; rintro e w1 ⟨rfl, hb⟩; have HB2 := Lib.hid (HB.out.trans (hb.mono HB.out.size)); clear hb HB; have HB := HB2; clear HB2)
            | (go_at_call 20; refine (cmp_any _ _ _ (by assumption) (by assumption)).mono ?_; rintro e w1 ⟨rfl, rfl⟩))
          go_ret
          first
            | exact ⟨rfl, HB.out⟩
            | (refine ⟨?_, HB.out⟩; simp)
        | true =>
          rcases cmpB_range b1 b0 with hd | hd | hd
          · clear hle
            go_enter Tryd.func8, Tryd.ntmps8
            go_wp2_with (first
              | (go_at_call 13; refine (bawake _).mono ?_; rintro e w1 ⟨rfl, hb⟩; have HB2 := Lib.hid (HB.out.trans (hb.mono HB.out.size)); clear hb HB; have HB := HB2; clear HB2)
              | (go_at_call_of 22 (Value.string ⟨([48, 49, 49] : List UInt8).toArray⟩); refine (aw1 _).mono ?_; rintro e w1 ⟨rfl, hb⟩; have HB2 := Lib.hid (HB.out.trans (hb.mono HB.out.size)); clear hb HB; have HB := HB2; clear HB2)
              | (go_at_call_of 22 (Value.string ⟨b0.toArray⟩); refine (HN.out _).mono ?_; rintro e w1 ⟨rfl, hb⟩; have HB2 := Lib.hid (HB.out.trans (hb.mono HB.out.size)); clear hb HB; have HB := HB2; clear HB2)
              | (go_at_call 18; refine (is_any _ _ (by assumption)).mono ?_; rintro e w1 ⟨rfl, hb⟩; have HB2 := Lib.hid (HB.out.trans (hb.mono HB.out.size)); clear hb HB; have HB := HB2; clear HB2)
              | (go_at_call 20; refine (cmp_any _ _ _ (by assumption) (by assumption)).mono ?_; rintro e w1 ⟨rfl, rfl⟩))
            go_ret
            first
              | exact ⟨rfl, HB.out⟩
              | (refine ⟨?_, HB.out⟩; simp)
          · clear hle
            go_enter Tryd.func8, Tryd.ntmps8
            go_wp2_with (first
              | (go_at_call 13; refine (bawake _).mono ?_; rintro e w1 ⟨rfl, hb⟩; have HB2 := Lib.hid (HB.out.trans (hb.mono HB.out.size)); clear hb HB; have HB := HB2; clear HB2)
              | (go_at_call_of 22 (Value.string ⟨([48, 49, 49] : List UInt8).toArray⟩); refine (aw1 _).mono ?_; rintro e w1 ⟨rfl, hb⟩; have HB2 := Lib.hid (HB.out.trans (hb.mono HB.out.size)); clear hb HB; have HB := HB2; clear HB2)
              | (go_at_call_of 22 (Value.string ⟨b0.toArray⟩); refine (HN.out _).mono ?_; rintro e w1 ⟨rfl, hb⟩; have HB2 := Lib.hid (HB.out.trans (hb.mono HB.out.size)); clear hb HB; have HB := HB2; clear HB2)
              | (go_at_call 18; refine (is_any _ _ (by assumption)).mono ?_; rintro e w1 ⟨rfl, hb⟩; have HB2 := Lib.hid (HB.out.trans (hb.mono HB.out.size)); clear hb HB; have HB := HB2; clear HB2)
              | (go_at_call 20; refine (cmp_any _ _ _ (by assumption) (by assumption)).mono ?_; rintro e w1 ⟨rfl, rfl⟩))
            go_ret
            first
              | exact ⟨rfl, HB.out⟩
              | (refine ⟨?_, HB.out⟩; simp)
          · have hle2 := hle b1 ht (by rw [hd]; decide)
            clear hle
            go_enter Tryd.func8, Tryd.ntmps8
            go_wp2_with (first
              | (go_at_call 13; refine (bawake _).mono ?_; rintro e w1 ⟨rfl, hb⟩; have HB2 := Lib.hid (HB.out.trans (hb.mono HB.out.size)); clear hb HB; have HB := HB2; clear HB2)
              | (go_at_call_of 22 (Value.string ⟨([48, 49, 49] : List UInt8).toArray⟩); refine (aw1 _).mono ?_; rintro e w1 ⟨rfl, hb⟩; have HB2 := Lib.hid (HB.out.trans (hb.mono HB.out.size)); clear hb HB; have HB := HB2; clear HB2)
              | (go_at_call_of 22 (Value.string ⟨b0.toArray⟩); refine (HN.out _).mono ?_; rintro e w1 ⟨rfl, hb⟩; have HB2 := Lib.hid (HB.out.trans (hb.mono HB.out.size)); clear hb HB; have HB := HB2; clear HB2)
              | (go_at_call 18; refine (is_any _ _ (by assumption)).mono ?_; rintro e w1 ⟨rfl, hb⟩; have HB2 := Lib.hid (HB.out.trans (hb.mono HB.out.size)); clear hb HB; have HB := HB2; clear HB2)
              | (go_at_call 20; refine (cmp_any _ _ _ (by assumption) (by assumption)).mono ?_; rintro e w1 ⟨rfl, rfl⟩))
            go_ret
            first
              | exact ⟨rfl, HB.out⟩
              | (refine ⟨?_, HB.out⟩; simp)
      | false =>
        obtain ⟨hn, hle⟩ := next_top h hk
        have HN := Lib.hid (fun W : World => show Calls Tryd.prog 22 #[.string ⟨b0.toArray⟩] W fun e w' => e = .returned (.tuple #[.string ⟨([]).toArray⟩, .bool false]) ∧ Below W.heap.size W w' from by
          have h := next_any W b0 l0
          rwa [hn] at h)
        clear hn hx hk
        cases ht : isB b1 with
        | false =>
          clear hle
          go_enter Tryd.func8, Tryd.ntmps8
          go_wp2_with (first
            | (go_at_call 13; refine (bawake _).mono ?_; rintro e w1 ⟨rfl, hb⟩; have HB2 := Lib.hid (HB.out.trans (hb.mono HB.out.size)); clear hb HB; have HB := HB2; clear HB2)
            | (go_at_call_of 22 (Value.string ⟨([48, 49, 49] : List UInt8).toArray⟩); refine (aw1 _).mono ?_; rintro e w1 ⟨rfl, hb⟩; have HB2 := Lib.hid (HB.out.trans (hb.mono HB.out.size)); clear hb HB; have HB := HB2; clear HB2)
            | (go_at_call_of 22 (Value.string ⟨b0.toArray⟩); refine (HN.out _).mono ?_; rintro e w1 ⟨rfl, hb⟩; have HB2 := Lib.hid (HB.out.trans (hb.mono HB.out.size)); clear hb HB; have HB := HB2; clear HB2)
            | (go_at_call 18; refine (is_any _ _ (by assumption)).mono ?_; rintro e w1 ⟨rfl, hb⟩; have HB2 := Lib.hid (HB.out.trans (hb.mono HB.out.size)); clear hb HB; have HB := HB2; clear HB2)
            | (go_at_call 20; refine (cmp_any _ _ _ (by assumption) (by assumption)).mono ?_; rintro e w1 ⟨rfl, rfl⟩))
          go_ret
          first
            | exact ⟨rfl, HB.out⟩
            | (refine ⟨?_, HB.out⟩; simp)
        | true =>
          have hle2 := hle b1 ht
          clear hle
          go_enter Tryd.func8, Tryd.ntmps8
          go_wp2_with (first
            | (go_at_call 13; refine (bawake _).mono ?_; rintro e w1 ⟨rfl, hb⟩; have HB2 := Lib.hid (HB.out.trans (hb.mono HB.out.size)); clear hb HB; have HB := HB2; clear HB2)
            | (go_at_call_of 22 (Value.string ⟨([48, 49, 49] : List UInt8).toArray⟩); refine (aw1 _).mono ?_; rintro e w1 ⟨rfl, hb⟩; have HB2 := Lib.hid (HB.out.trans (hb.mono HB.out.size)); clear hb HB; have HB := HB2; clear HB2)
            | (go_at_call_of 22 (Value.string ⟨b0.toArray⟩); refine (HN.out _).mono ?_; rintro e w1 ⟨rfl, hb⟩; have HB2 := Lib.hid (HB.out.trans (hb.mono HB.out.size)); clear hb HB; have HB := HB2; clear HB2)
            | (go_at_call 18; refine (is_any _ _ (by assumption)).mono ?_; rintro e w1 ⟨rfl, hb⟩; have HB2 := Lib.hid (HB.out.trans (hb.mono HB.out.size)); clear hb HB; have HB := HB2; clear HB2)
            | (go_at_call 20; refine (cmp_any _ _ _ (by assumption) (by assumption)).mono ?_; rintro e w1 ⟨rfl, rfl⟩))
          go_ret
          first
            | exact ⟨rfl, HB.out⟩
            | (refine ⟨?_, HB.out⟩; simp)
    · have hB : isB b0 = false := by simpa using h
      have hn := nextB_no hB
      have HN := Lib.hid (fun W : World => show Calls Tryd.prog 22 #[.string ⟨b0.toArray⟩] W fun e w' => e = .returned (.tuple #[.string ⟨([]).toArray⟩, .bool false]) ∧ Below W.heap.size W w' from by
        have h := next_any W b0 l0
        rwa [hn] at h)
      clear hn h
      go_enter Tryd.func8, Tryd.ntmps8
      go_wp2_with (first
        | (go_at_call 13; refine (bawake _).mono ?_; rintro e w1 ⟨rfl, hb⟩; have HB2 := Lib.hid (HB.out.trans (hb.mono HB.out.size)); clear hb HB; have HB := HB2; clear HB2)
        | (go_at_call_of 22 (Value.string ⟨([48, 49, 49] : List UInt8).toArray⟩); refine (aw1 _).mono ?_; rintro e w1 ⟨rfl, hb⟩; have HB2 := Lib.hid (HB.out.trans (hb.mono HB.out.size)); clear hb HB; have HB := HB2; clear HB2)
        | (go_at_call_of 22 (Value.string ⟨b0.toArray⟩); refine (HN.out _).mono ?_; rintro e w1 ⟨rfl, hb⟩; have HB2 := Lib.hid (HB.out.trans (hb.mono HB.out.size)); clear hb HB; have HB := HB2; clear HB2)
        | (go_at_call 18; refine (is_any _ _ (by assumption)).mono ?_; rintro e w1 ⟨rfl, hb⟩; have HB2 := Lib.hid (HB.out.trans (hb.mono HB.out.size)); clear hb HB; have HB := HB2; clear HB2)
        | (go_at_call 20; refine (cmp_any _ _ _ (by assumption) (by assumption)).mono ?_; rintro e w1 ⟨rfl, rfl⟩))
      go_ret
      first
        | exact ⟨rfl, HB.out⟩
        | (refine ⟨?_, HB.out⟩; simp)
  · have hl' : (3000 < b0.length) ∨ (b0.length ≤ 3000 ∧ 3000 < b1.length) := by omega
    clear hl
    rcases hl' with g0 | ⟨g0, g1⟩
    · go_enter Tryd.func8, Tryd.ntmps8
      go_wp2_with (first
        | (go_at_call 13; refine (bawake _).mono ?_; rintro e w1 ⟨rfl, hb⟩; have HB2 := Lib.hid (HB.out.trans (hb.mono HB.out.size)); clear hb HB; have HB := HB2; clear HB2))
      go_ret
      first
        | exact ⟨rfl, HB.out⟩
        | (refine ⟨?_, HB.out⟩; simp)
    · go_enter Tryd.func8, Tryd.ntmps8
      go_wp2_with (first
        | (go_at_call 13; refine (bawake _).mono ?_; rintro e w1 ⟨rfl, hb⟩; have HB2 := Lib.hid (HB.out.trans (hb.mono HB.out.size)); clear hb HB; have HB := HB2; clear HB2))
      go_ret
      first
        | exact ⟨rfl, HB.out⟩
        | (refine ⟨?_, HB.out⟩; simp)
set_option maxRecDepth 100000 in
theorem lifted (os : Os) (started : os.Started) (H : Type) (enc : TypeId × Value → H) :
    ReturnsInHanded {} Tryd.checked os 8 .any (fun w args => (Rows.bitsNextSpec.pre enc Tryd.prog Tryd.f8 Rows.bitsNextRow.domain false w args ∧ laidMetH Tryd.prog Rows.bitsNextRow.laid w) ∧ sizedMet enc Tryd.prog Tryd.f8 (OpenSpec.ofChange Rows.bitsNextSpec) false w args) (Rows.bitsNextSpec.post enc Tryd.prog Tryd.f8 false true false false) := by
  refine returnsInHanded_of_change_and (C := Tryd.checked) (X := fun w _ => laidMetH Tryd.prog Rows.bitsNextRow.laid w) (fun _ _ _ hh h => h.of_heap hh) own started (by kernel_rfl) Tryd.func8
    (ChangeSpec.witness_shaped (enc := enc) (C := Tryd.checked) (os := os) (X := fun w _ => laidMetH Tryd.prog Rows.bitsNextRow.laid w) false (World.laidAll Tryd.prog os Rows.bitsNextRow.laid) #[.string ByteArray.empty, .string ByteArray.empty] 8 (World.laidAll_os _ _ _)
      (World.shaped_of_ZipB (by kernel_rfl) (by kernel_rfl)) (by kernel_rfl) (by kernel_rfl) (by kernel_rfl)
      (by rw [MakeChecks.laidMetH_plain _ _ _ (by kernel_rfl)]; exact laidMet_laidAll _ (by kernel_rfl) (by kernel_rfl))) ?_
  intro W base args ds gs before hval0 hW hcnd _ _ _
  have hval : ∀ (j : Nat) t v, Tryd.f8.params[j]? = some t → args[j]? = some v → Value.okWide Tryd.prog W .any base t v := hval0
  have hW' := hW
  obtain ⟨p, q, hA0, hV, hpq, hfz, hnd⟩ := hW
  have hA : DataW.TrodAll enc Tryd.prog W 0 (fun _ => true) true Tryd.f8.params.toList args.toList ds p := hA0
  rw [Tryd.params8] at hA hval
  obtain ⟨v0, vs0, d0, ds0, p0, q0, hargs, rfl, rfl, h0, r0⟩ := trodAll_cons hA
  obtain ⟨v1, vs1, d1, ds1, p1, q1, rfl, rfl, rfl, h1, r1⟩ := trodAll_cons r0
  obtain ⟨rfl, rfl, rfl⟩ := trodAll_nil r1
  obtain rfl : args = #[v0, v1] := by cases args; simp_all
  obtain ⟨rfl, rfl⟩ := trodVars_none hV
  obtain ⟨y0, rfl, rfl, rfl, l0⟩ := Go.ChangeMaps.open_string Tryd.underlying9 (hval 0 9 v0 rfl rfl) h0
  obtain ⟨b0, rfl⟩ : ∃ b : List UInt8, y0 = ⟨b.toArray⟩ := ⟨y0.data.toList, by cases y0; simp⟩
  obtain ⟨y1, rfl, rfl, rfl, l1⟩ := Go.ChangeMaps.open_string Tryd.underlying9 (hval 1 9 v1 rfl rfl) h1
  obtain ⟨b1, rfl⟩ : ∃ b : List UInt8, y1 = ⟨b.toArray⟩ := ⟨y1.data.toList, by cases y1; simp⟩
  refine (walk W b0 l0 b1 l1).mono fun e W' ⟨he, hb⟩ => ?_
  subst he
  exact ⟨_, rfl, Frame.close laidOut hW' rfl rfl rfl Tryd.underlying4 (fun t ht => by rw [Tryd.params8] at ht; simp at ht; rcases ht with rfl <;> exact ⟨by kernel_rfl, of_decide_eq_true (by kernel_rfl)⟩) hb⟩
theorem over : Rows.bitsNextRow.holds Tryd.pinned (OpenSpec.ofChange Rows.bitsNextSpec) :=
  OpenClaim.holds_of_wide 8 Tryd.f8 rfl rfl rfl rfl rfl rfl rfl ⟨rfl, rfl, rfl, rfl, rfl⟩ rfl rfl rfl rfl rfl (by kernel_rfl) Tryd.func8 (by kernel_rfl)
    (of_decide_eq_true (by kernel_rfl)) (by unfold Func.isWrapper; first | (rw [if_pos (by decide +kernel)]; kernel_rfl) | (rw [if_neg (by decide +kernel)]; exact ⟨rfl, rfl⟩))
    (fun os started H enc _ => lifted os started H enc)
/-- the statement -/
theorem proved : Rows.BitsNextCardSaid :=
  Claim7.holds_tied_plain_at .later [] _ _ _ _ over (fun _ h => by cases h) (by kernel_rfl) (fun _ h => by cases h) bitsNext_row_tie rfl ⟨rfl, rfl⟩ (by kernel_rfl) rfl
    (fun f fn hf hfn => by
      obtain rfl : f = 8 := Option.some.inj ((show Tryd.prog.funcNamed "tombola/tombolalaw07.BitsNext" = some 8 by kernel_rfl).symm.trans hf) |>.symm
      obtain rfl : fn = Tryd.f8 := (Option.some.inj (Tryd.func8.symm.trans hfn)).symm
      exact ⟨by kernel_rfl, (fun j t ht => by
        rw [Tryd.params8] at ht
        have hm : t ∈ [9, 9] := by simpa using Array.mem_of_getElem? ht
        have hall : ([9, 9].all fun u => !Tryd.prog.wantsStandIn u) = true := by kernel_rfl
        exact (show Tryd.prog.wantsStandIn t = false by simpa using List.all_eq_true.1 hall t hm))⟩)
    (by kernel_rfl)
#print axioms proved
end Go.Proofs.YtcpkkceoobioiaaDoor.bitsNext
