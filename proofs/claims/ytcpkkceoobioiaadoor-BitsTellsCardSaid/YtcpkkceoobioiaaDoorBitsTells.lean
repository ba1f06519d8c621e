/-
  PROVED: the statement BitsTells (tombolalaw07.BitsTells) about the landed commit: for every input the law returns true and leaves its arguments as they were. Conditions: none beyond those that the given row itself prints.
-/
import Derived.Test.YtcpkkceoobioiaaDoorCards
import Derived.Test.YtcpkkceoobioiaaDoorTie
import Derived.LaidMore
import Derived.Lay
import Derived.SevenTiedAt
import Derived.Stop.Joined
import Derived.Test.YtcpkkceoobioiaaDoorRows
import Derived.WalkKit
import Derived.ProofKit
import Derived.OpenShut
import Derived.RowKit3
import Derived.Test.YtcpkkceoobioiaaDoorGFrame
import Derived.Test.YtcpkkceoobioiaaDoorBitAwake
import Derived.Test.YtcpkkceoobioiaaDoorBitRef3
namespace Go.Proofs.YtcpkkceoobioiaaDoor.bitsTells
open Go.ChangeShapes Go.WideShapes Go.ChangeAt Go.RowKit
set_option linter.unusedVariables false
set_option linter.unusedSimpArgs false
set_option maxRecDepth 20000
open N
theorem own : ownKnob Tryd.prog.godebug = none := by kernel_rfl

set_option maxRecDepth 100000 in
set_option maxHeartbeats 40000000 in
theorem walk (w : World) (b0 : List UInt8) (l0 : b0.length ≤ maxLen) (b1 : List UInt8) (l1 : b1.length ≤ maxLen) (a2 : Int) (w2 : (Lit.int .u64 a2).wf = true) (a3 : Int) (w3 : (Lit.int .i64 a3).wf = true) :
    Calls Tryd.prog 3 #[.string ⟨b0.toArray⟩, .string ⟨b1.toArray⟩, .int .u64 a2, .int .i64 a3] w fun e w' => e = .returned (.bool true) ∧ Below w.heap.size w w' := by
  have lm0 := l0
  unfold maxLen at lm0
  have lm1 := l1
  unfold maxLen at lm1
  have HB := Lib.hid (Below.refl w.heap.size w)
  by_cases hl : b0.length ≤ 3000 ∧ b1.length ≤ 3000
  · obtain ⟨hl0, hl1⟩ := hl
    obtain ⟨nv, hnv⟩ : ∃ v, nuV b0 = v := ⟨_, rfl⟩
    obtain ⟨ne, hne⟩ : ∃ v, nuE b0 = v := ⟨_, rfl⟩
    obtain ⟨ov, hov⟩ : ∃ v, ofV a2 a3 = v := ⟨_, rfl⟩
    obtain ⟨oe, hoe⟩ : ∃ v, ofE a2 a3 = v := ⟨_, rfl⟩
    obtain ⟨iv, hiv⟩ : ∃ v, isB b0 = v := ⟨_, rfl⟩
    obtain ⟨cv, hcv⟩ : ∃ v, cmpB b0 b1 = v := ⟨_, rfl⟩
    have H1 := Lib.hid (fun W : World => show Calls Tryd.prog 14 #[.string ⟨b0.toArray⟩] W fun e w' => e = .returned (.tuple #[.int .u64 nv, .int .i64 ne]) ∧ Below W.heap.size W w' from by
      have h := num_any W b0 l0
      rwa [hnv, hne] at h)
    have H2 := Lib.hid (fun W : World => show Calls Tryd.prog 15 #[.string ⟨b0.toArray⟩] W fun e w' => e = .returned (.tuple #[.int .u64 nv, .int .i64 ne]) ∧ w' = W from by
      have h := rnum_any W b0 l0
      rwa [hnv, hne] at h)
    have H3 := Lib.hid (fun W : World => show Calls Tryd.prog 16 #[.int .u64 a2, .int .i64 a3] W fun e w' => e = .returned (.tuple #[.string ⟨ov.toArray⟩, .int .i64 oe]) ∧ Below W.heap.size W w' from by
      have h := of_any W a2 a3 w2 w3
      rwa [hov, hoe] at h)
    have H4 := Lib.hid (fun W : World => show Calls Tryd.prog 17 #[.int .u64 a2, .int .i64 a3] W fun e w' => e = .returned (.tuple #[.string ⟨ov.toArray⟩, .int .i64 oe]) ∧ Below W.heap.size W w' from by
      have h := rof_any W a2 a3 w2 w3
      rwa [hov, hoe] at h)
    have H5 := Lib.hid (fun W : World => show Calls Tryd.prog 18 #[.string ⟨b0.toArray⟩] W fun e w' => e = .returned (.bool iv) ∧ Below W.heap.size W w' from by
      have h := is_any W b0 l0
      rwa [hiv] at h)
    have H6 := Lib.hid (fun W : World => show Calls Tryd.prog 19 #[.string ⟨b0.toArray⟩] W fun e w' => e = .returned (.bool iv) ∧ w' = W from by
      have h := ris_any W b0 l0
      rwa [hiv] at h)
    have H7 := Lib.hid (fun W : World => show Calls Tryd.prog 20 #[.string ⟨b0.toArray⟩, .string ⟨b1.toArray⟩] W fun e w' => e = .returned (.int .i64 cv) ∧ w' = W from by
      have h := cmp_any W b0 b1 l0 l1
      rwa [hcv] at h)
    have H8 := Lib.hid (fun W : World => show Calls Tryd.prog 21 #[.string ⟨b0.toArray⟩, .string ⟨b1.toArray⟩] W fun e w' => e = .returned (.int .i64 cv) ∧ Below W.heap.size W w' from by
      have h := rcmp_any W b0 b1 l0 l1
      rwa [hcv] at h)
    clear hnv hne hov hoe hiv hcv
    go_enter Tryd.func3, Tryd.ntmps3
    go_wp2_with (first
      | (go_at_call 13; refine (bawake _).mono ?_; rintro e w1 ⟨rfl, hb⟩; have HB2 := Lib.hid (HB.out.trans (hb.mono HB.out.size)); clear hb HB; have HB := HB2; clear HB2)
      | (go_at_call 14; refine (H1.out _).mono ?_; rintro e w1 ⟨rfl, hb⟩; have HB2 := Lib.hid (HB.out.trans (hb.mono HB.out.size)); clear hb HB; have HB := HB2; clear HB2)
      | (go_at_call 15; refine (H2.out _).mono ?_; rintro e w1 ⟨rfl, rfl⟩)
      | (go_at_call 16; refine (H3.out _).mono ?_; rintro e w1 ⟨rfl, hb⟩; have HB2 := Lib.hid (HB.out.trans (hb.mono HB.out.size)); clear hb HB; have HB := HB2; clear HB2)
      | (go_at_call 17; refine (H4.out _).mono ?_; rintro e w1 ⟨rfl, hb⟩; have HB2 := Lib.hid (HB.out.trans (hb.mono HB.out.size)); clear hb HB; have HB := HB2; clear HB2)
      | (go_at_call 18; refine (H5.out _).mono ?_; rintro e w1 ⟨rfl, hb⟩; have HB2 := Lib.hid (HB.out.trans (hb.mono HB.out.size)); clear hb HB; have HB := HB2; clear HB2)
      | (go_at_call 19; refine (H6.out _).mono ?_; rintro e w1 ⟨rfl, rfl⟩)
      | (go_at_call 20; refine (H7.out _).mono ?_; rintro e w1 ⟨rfl, rfl⟩)
      | (go_at_call 21; refine (H8.out _).mono ?_; rintro e w1 ⟨rfl, hb⟩; have HB2 := Lib.hid (HB.out.trans (hb.mono HB.out.size)); clear hb HB; have HB := HB2; clear HB2))
    go_ret
    first
      | exact ⟨rfl, HB.out⟩
      | (refine ⟨?_, HB.out⟩; simp)
  · have hl' : (3000 < b0.length) ∨ (b0.length ≤ 3000 ∧ 3000 < b1.length) := by omega
    clear hl
    rcases hl' with g0 | ⟨g0, g1⟩
    · go_enter Tryd.func3, Tryd.ntmps3
      go_wp2_with (first
        | (go_at_call 13; refine (bawake _).mono ?_; rintro e w1 ⟨rfl, hb⟩; have HB2 := Lib.hid (HB.out.trans (hb.mono HB.out.size)); clear hb HB; have HB := HB2; clear HB2))
      go_ret
      first
        | exact ⟨rfl, HB.out⟩
        | (refine ⟨?_, HB.out⟩; simp)
    · go_enter Tryd.func3, Tryd.ntmps3
      go_wp2_with (first
        | (go_at_call 13; refine (bawake _).mono ?_; rintro e w1 ⟨rfl, hb⟩; have HB2 := Lib.hid (HB.out.trans (hb.mono HB.out.size)); clear hb HB; have HB := HB2; clear HB2))
      go_ret
      first
        | exact ⟨rfl, HB.out⟩
        | (refine ⟨?_, HB.out⟩; simp)
set_option maxRecDepth 100000 in
theorem lifted (os : Os) (started : os.Started) (H : Type) (enc : TypeId × Value → H) :
    ReturnsInHanded {} Tryd.checked os 3 .any (fun w args => (Rows.bitsTellsSpec.pre enc Tryd.prog Tryd.f3 Rows.bitsTellsRow.domain false w args ∧ laidMetH Tryd.prog Rows.bitsTellsRow.laid w) ∧ sizedMet enc Tryd.prog Tryd.f3 (OpenSpec.ofChange Rows.bitsTellsSpec) false w args) (Rows.bitsTellsSpec.post enc Tryd.prog Tryd.f3 false true false false) := by
  refine returnsInHanded_of_change_and (C := Tryd.checked) (X := fun w _ => laidMetH Tryd.prog Rows.bitsTellsRow.laid w) (fun _ _ _ hh h => h.of_heap hh) own started (by kernel_rfl) Tryd.func3
    (ChangeSpec.witness_shaped (enc := enc) (C := Tryd.checked) (os := os) (X := fun w _ => laidMetH Tryd.prog Rows.bitsTellsRow.laid w) false (World.laidAll Tryd.prog os Rows.bitsTellsRow.laid) #[.string ByteArray.empty, .string ByteArray.empty, .int .u64 0, .int .i64 0] 8 (World.laidAll_os _ _ _)
      (World.shaped_of_ZipB (by kernel_rfl) (by kernel_rfl)) (by kernel_rfl) (by kernel_rfl) (by kernel_rfl)
      (by rw [MakeChecks.laidMetH_plain _ _ _ (by kernel_rfl)]; exact laidMet_laidAll _ (by kernel_rfl) (by kernel_rfl))) ?_
  intro W base args ds gs before hval0 hW hcnd _ _ _
  have hval : ∀ (j : Nat) t v, Tryd.f3.params[j]? = some t → args[j]? = some v → Value.okWide Tryd.prog W .any base t v := hval0
  have hW' := hW
  obtain ⟨p, q, hA0, hV, hpq, hfz, hnd⟩ := hW
  have hA : DataW.TrodAll enc Tryd.prog W 0 (fun _ => true) true Tryd.f3.params.toList args.toList ds p := hA0
  rw [Tryd.params3] at hA hval
  obtain ⟨v0, vs0, d0, ds0, p0, q0, hargs, rfl, rfl, h0, r0⟩ := trodAll_cons hA
  obtain ⟨v1, vs1, d1, ds1, p1, q1, rfl, rfl, rfl, h1, r1⟩ := trodAll_cons r0
  obtain ⟨v2, vs2, d2, ds2, p2, q2, rfl, rfl, rfl, h2, r2⟩ := trodAll_cons r1
  obtain ⟨v3, vs3, d3, ds3, p3, q3, rfl, rfl, rfl, h3, r3⟩ := trodAll_cons r2
  obtain ⟨rfl, rfl, rfl⟩ := trodAll_nil r3
  obtain rfl : args = #[v0, v1, v2, v3] := by cases args; simp_all
  obtain ⟨rfl, rfl⟩ := trodVars_none hV
  obtain ⟨y0, rfl, rfl, rfl, l0⟩ := Go.ChangeMaps.open_string Tryd.underlying9 (hval 0 9 v0 rfl rfl) h0
  obtain ⟨b0, rfl⟩ : ∃ b : List UInt8, y0 = ⟨b.toArray⟩ := ⟨y0.data.toList, by cases y0; simp⟩
  obtain ⟨y1, rfl, rfl, rfl, l1⟩ := Go.ChangeMaps.open_string Tryd.underlying9 (hval 1 9 v1 rfl rfl) h1
  obtain ⟨b1, rfl⟩ : ∃ b : List UInt8, y1 = ⟨b.toArray⟩ := ⟨y1.data.toList, by cases y1; simp⟩
  obtain ⟨a2, rfl, rfl, rfl, w2⟩ := open_int Tryd.underlying22 (hval 2 22 v2 rfl rfl) h2
  obtain ⟨a3, rfl, rfl, rfl, w3⟩ := open_int Tryd.underlying3 (hval 3 3 v3 rfl rfl) h3
  refine (walk W b0 l0 b1 l1 a2 w2 a3 w3).mono fun e W' ⟨he, hb⟩ => ?_
  subst he
  exact ⟨_, rfl, Frame.close laidOut hW' rfl rfl rfl Tryd.underlying4 (fun t ht => by rw [Tryd.params3] at ht; simp at ht; rcases ht with rfl | rfl | rfl <;> exact ⟨by kernel_rfl, of_decide_eq_true (by kernel_rfl)⟩) hb⟩
theorem over : Rows.bitsTellsRow.holds Tryd.pinned (OpenSpec.ofChange Rows.bitsTellsSpec) :=
  OpenClaim.holds_of_wide 3 Tryd.f3 rfl rfl rfl rfl rfl rfl rfl ⟨rfl, rfl, rfl, rfl, rfl⟩ rfl rfl rfl rfl rfl (by kernel_rfl) Tryd.func3 (by kernel_rfl)
    (of_decide_eq_true (by kernel_rfl)) (by unfold Func.isWrapper; first | (rw [if_pos (by decide +kernel)]; kernel_rfl) | (rw [if_neg (by decide +kernel)]; exact ⟨rfl, rfl⟩))
    (fun os started H enc _ => lifted os started H enc)
/-- the statement -/
theorem proved : Rows.BitsTellsCardSaid :=
  Claim7.holds_tied_plain_at .later [] _ _ _ _ over (fun _ h => by cases h) (by kernel_rfl) (fun _ h => by cases h) bitsTells_row_tie rfl ⟨rfl, rfl⟩ (by kernel_rfl) rfl
    (fun f fn hf hfn => by
      obtain rfl : f = 3 := Option.some.inj ((show Tryd.prog.funcNamed "tombola/tombolalaw07.BitsTells" = some 3 by kernel_rfl).symm.trans hf) |>.symm
      obtain rfl : fn = Tryd.f3 := (Option.some.inj (Tryd.func3.symm.trans hfn)).symm
      exact ⟨by kernel_rfl, (fun j t ht => by
        rw [Tryd.params3] at ht
        have hm : t ∈ [9, 9, 22, 3] := by simpa using Array.mem_of_getElem? ht
        have hall : ([9, 9, 22, 3].all fun u => !Tryd.prog.wantsStandIn u) = true := by kernel_rfl
        exact (show Tryd.prog.wantsStandIn t = false by simpa using List.all_eq_true.1 hall t hm))⟩)
    (by kernel_rfl)
#print axioms proved
end Go.Proofs.YtcpkkceoobioiaaDoor.bitsTells
