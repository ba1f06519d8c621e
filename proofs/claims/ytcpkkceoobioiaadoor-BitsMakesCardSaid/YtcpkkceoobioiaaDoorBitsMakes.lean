/-
  PROVED: the statement BitsMakes (tombolalaw07.BitsMakes) about the landed commit: for every input the law returns true and leaves its arguments as they were. Conditions: none beyond those that the given row itself prints.
-/
import Derived.Test.YtcpkkceoobioiaaDoorCards
import Derived.Test.YtcpkkceoobioiaaDoorTie
import Derived.LaidMore
import Derived.Lay
import Derived.SevenTiedAt
import Derived.Stop.Joined
import Derived.Test.YtcpkkceoobioiaaDoorRows
import Derived.WalkKit
import Derived.ProofKit
import Derived.OpenShut
import Derived.RowKit3
import Derived.Test.YtcpkkceoobioiaaDoorGFrame
import Derived.Test.YtcpkkceoobioiaaDoorBitAwake
import Derived.Test.YtcpkkceoobioiaaDoorBitRef3
namespace Go.Proofs.YtcpkkceoobioiaaDoor.bitsMakes
open Go.ChangeShapes Go.WideShapes Go.ChangeAt Go.RowKit
set_option linter.unusedVariables false
set_option linter.unusedSimpArgs false
set_option maxRecDepth 20000
open N
theorem own : ownKnob Tryd.prog.godebug = none := by kernel_rfl

set_option maxRecDepth 100000 in
set_option maxHeartbeats 40000000 in
theorem walk (w : World) (b0 : List UInt8) (l0 : b0.length ≤ maxLen) (a1 : Int) (w1 : (Lit.int .i64 a1).wf = true) (a2 : Int) (w2 : (Lit.int .i64 a2).wf = true) :
    Calls Tryd.prog 4 #[.string ⟨b0.toArray⟩, .int .i64 a1, .int .i64 a2] w fun e w' => e = .returned (.bool true) ∧ Below w.heap.size w w' := by
  have lm0 := l0
  unfold maxLen at lm0
  have HB := Lib.hid (Below.refl w.heap.size w)
  by_cases hl : b0.length ≤ 3000
  · obtain ⟨nv, hnv⟩ : ∃ v, (nextB b0).1 = v := ⟨_, rfl⟩
    obtain ⟨nb, hnb⟩ : ∃ v, (nextB b0).2 = v := ⟨_, rfl⟩
    obtain ⟨c1, hc1⟩ : ∃ v, cutV b0 a1 a2 = v := ⟨_, rfl⟩
    obtain ⟨c2, hc2⟩ : ∃ v, clearV b0 a1 a2 = v := ⟨_, rfl⟩
    obtain ⟨c3, hc3⟩ : ∃ v, downV b0 a1 = v := ⟨_, rfl⟩
    obtain ⟨e1, he1⟩ : ∃ v, partE b0 a1 a2 = v := ⟨_, rfl⟩
    obtain ⟨e3, he3⟩ : ∃ v, downE b0 a1 = v := ⟨_, rfl⟩
    have H1n := Lib.hid (fun W : World => show Calls Tryd.prog 22 #[.string ⟨b0.toArray⟩] W fun e w' => e = .returned (.tuple #[.string ⟨nv.toArray⟩, .bool nb]) ∧ Below W.heap.size W w' from by
      have h := next_any W b0 l0
      rwa [hnv, hnb] at h)
    have H1c := Lib.hid (fun W : World => show Calls Tryd.prog 24 #[.string ⟨b0.toArray⟩, .int .i64 a1, .int .i64 a2] W fun e w' => e = .returned (.tuple #[.string ⟨c1.toArray⟩, .int .i64 e1]) ∧ Below W.heap.size W w' from by
      have h := cut_any W b0 l0 a1 a2 w1 w2
      rwa [hc1, he1] at h)
    have H1k := Lib.hid (fun W : World => show Calls Tryd.prog 26 #[.string ⟨b0.toArray⟩, .int .i64 a1, .int .i64 a2] W fun e w' => e = .returned (.tuple #[.string ⟨c2.toArray⟩, .int .i64 e1]) ∧ Below W.heap.size W w' from by
      have h := clear_any W b0 l0 a1 a2 w1 w2
      rwa [hc2, he1] at h)
    have H1d := Lib.hid (fun W : World => show Calls Tryd.prog 28 #[.string ⟨b0.toArray⟩, .int .i64 a1] W fun e w' => e = .returned (.tuple #[.string ⟨c3.toArray⟩, .int .i64 e3]) ∧ Below W.heap.size W w' from by
      have h := down_any W b0 l0 a1 w1
      rwa [hc3, he3] at h)
    have H2n := Lib.hid (fun W : World => show Calls Tryd.prog 23 #[.string ⟨b0.toArray⟩] W fun e w' => e = .returned (.tuple #[.string ⟨nv.toArray⟩, .bool nb]) ∧ Below W.heap.size W w' from by
      have h := rnext_any W b0 l0
      rwa [hnv, hnb] at h)
    have H2c := Lib.hid (fun W : World => show Calls Tryd.prog 25 #[.string ⟨b0.toArray⟩, .int .i64 a1, .int .i64 a2] W fun e w' => e = .returned (.tuple #[.string ⟨c1.toArray⟩, .int .i64 e1]) ∧ Below W.heap.size W w' from by
      have h := rcut_any W b0 l0 a1 a2 w1 w2
      rwa [hc1, he1] at h)
    have H2k := Lib.hid (fun W : World => show Calls Tryd.prog 27 #[.string ⟨b0.toArray⟩, .int .i64 a1, .int .i64 a2] W fun e w' => e = .returned (.tuple #[.string ⟨c2.toArray⟩, .int .i64 e1]) ∧ Below W.heap.size W w' from by
      have h := rclear_any W b0 l0 a1 a2 w1 w2
      rwa [hc2, he1] at h)
    have H2d := Lib.hid (fun W : World => show Calls Tryd.prog 29 #[.string ⟨b0.toArray⟩, .int .i64 a1] W fun e w' => e = .returned (.tuple #[.string ⟨c3.toArray⟩, .int .i64 e3]) ∧ Below W.heap.size W w' from by
      have h := rdown_any W b0 l0 a1 w1
      rwa [hc3, he3] at h)
    clear hnv hnb hc1 hc2 hc3 he1 he3
    go_enter Tryd.func4, Tryd.ntmps4
    go_wp2_with (first
      | (go_at_call 13; refine (bawake _).mono ?_; rintro e w1 ⟨rfl, hb⟩; have HB2 := Lib.hid (HB.out.trans (hb.mono HB.out.size)); clear hb HB; have HB := HB2; clear HB2)
      | (go_at_call 22; refine (H1n.out _).mono ?_; rintro e w1 ⟨rfl, hb⟩; have HB2 := Lib.hid (HB.out.trans (hb.mono HB.out.size)); clear hb HB; have HB := HB2; clear HB2)
      | (go_at_call 24; refine (H1c.out _).mono ?_; rintro e w1 ⟨rfl, hb⟩; have HB2 := Lib.hid (HB.out.trans (hb.mono HB.out.size)); clear hb HB; have HB := HB2; clear HB2)
      | (go_at_call 26; refine (H1k.out _).mono ?_; rintro e w1 ⟨rfl, hb⟩; have HB2 := Lib.hid (HB.out.trans (hb.mono HB.out.size)); clear hb HB; have HB := HB2; clear HB2)
      | (go_at_call 28; refine (H1d.out _).mono ?_; rintro e w1 ⟨rfl, hb⟩; have HB2 := Lib.hid (HB.out.trans (hb.mono HB.out.size)); clear hb HB; have HB := HB2; clear HB2)
      | (go_at_call 23; refine (H2n.out _).mono ?_; rintro e w1 ⟨rfl, hb⟩; have HB2 := Lib.hid (HB.out.trans (hb.mono HB.out.size)); clear hb HB; have HB := HB2; clear HB2)
      | (go_at_call 25; refine (H2c.out _).mono ?_; rintro e w1 ⟨rfl, hb⟩; have HB2 := Lib.hid (HB.out.trans (hb.mono HB.out.size)); clear hb HB; have HB := HB2; clear HB2)
      | (go_at_call 27; refine (H2k.out _).mono ?_; rintro e w1 ⟨rfl, hb⟩; have HB2 := Lib.hid (HB.out.trans (hb.mono HB.out.size)); clear hb HB; have HB := HB2; clear HB2)
      | (go_at_call 29; refine (H2d.out _).mono ?_; rintro e w1 ⟨rfl, hb⟩; have HB2 := Lib.hid (HB.out.trans (hb.mono HB.out.size)); clear hb HB; have HB := HB2; clear HB2))
    go_ret
    first
      | exact ⟨rfl, HB.out⟩
      | (refine ⟨?_, HB.out⟩; simp)
  · have hl' : (3000 < b0.length) := by omega
    clear hl
    go_enter Tryd.func4, Tryd.ntmps4
    go_wp2_with (first
      | (go_at_call 13; refine (bawake _).mono ?_; rintro e w1 ⟨rfl, hb⟩; have HB2 := Lib.hid (HB.out.trans (hb.mono HB.out.size)); clear hb HB; have HB := HB2; clear HB2))
    go_ret
    first
      | exact ⟨rfl, HB.out⟩
      | (refine ⟨?_, HB.out⟩; simp)
set_option maxRecDepth 100000 in
theorem lifted (os : Os) (started : os.Started) (H : Type) (enc : TypeId × Value → H) :
    ReturnsInHanded {} Tryd.checked os 4 .any (fun w args => (Rows.bitsMakesSpec.pre enc Tryd.prog Tryd.f4 Rows.bitsMakesRow.domain false w args ∧ laidMetH Tryd.prog Rows.bitsMakesRow.laid w) ∧ sizedMet enc Tryd.prog Tryd.f4 (OpenSpec.ofChange Rows.bitsMakesSpec) false w args) (Rows.bitsMakesSpec.post enc Tryd.prog Tryd.f4 false true false false) := by
  refine returnsInHanded_of_change_and (C := Tryd.checked) (X := fun w _ => laidMetH Tryd.prog Rows.bitsMakesRow.laid w) (fun _ _ _ hh h => h.of_heap hh) own started (by kernel_rfl) Tryd.func4
    (ChangeSpec.witness_shaped (enc := enc) (C := Tryd.checked) (os := os) (X := fun w _ => laidMetH Tryd.prog Rows.bitsMakesRow.laid w) false (World.laidAll Tryd.prog os Rows.bitsMakesRow.laid) #[.string ByteArray.empty, .int .i64 0, .int .i64 0] 8 (World.laidAll_os _ _ _)
      (World.shaped_of_ZipB (by kernel_rfl) (by kernel_rfl)) (by kernel_rfl) (by kernel_rfl) (by kernel_rfl)
      (by rw [MakeChecks.laidMetH_plain _ _ _ (by kernel_rfl)]; exact laidMet_laidAll _ (by kernel_rfl) (by kernel_rfl))) ?_
  intro W base args ds gs before hval0 hW hcnd _ _ _
  have hval : ∀ (j : Nat) t v, Tryd.f4.params[j]? = some t → args[j]? = some v → Value.okWide Tryd.prog W .any base t v := hval0
  have hW' := hW
  obtain ⟨p, q, hA0, hV, hpq, hfz, hnd⟩ := hW
  have hA : DataW.TrodAll enc Tryd.prog W 0 (fun _ => true) true Tryd.f4.params.toList args.toList ds p := hA0
  rw [Tryd.params4] at hA hval
  obtain ⟨v0, vs0, d0, ds0, p0, q0, hargs, rfl, rfl, h0, r0⟩ := trodAll_cons hA
  obtain ⟨v1, vs1, d1, ds1, p1, q1, rfl, rfl, rfl, h1, r1⟩ := trodAll_cons r0
  obtain ⟨v2, vs2, d2, ds2, p2, q2, rfl, rfl, rfl, h2, r2⟩ := trodAll_cons r1
  obtain ⟨rfl, rfl, rfl⟩ := trodAll_nil r2
  obtain rfl : args = #[v0, v1, v2] := by cases args; simp_all
  obtain ⟨rfl, rfl⟩ := trodVars_none hV
  obtain ⟨y0, rfl, rfl, rfl, l0⟩ := Go.ChangeMaps.open_string Tryd.underlying9 (hval 0 9 v0 rfl rfl) h0
  obtain ⟨b0, rfl⟩ : ∃ b : List UInt8, y0 = ⟨b.toArray⟩ := ⟨y0.data.toList, by cases y0; simp⟩
  obtain ⟨a1, rfl, rfl, rfl, w1⟩ := open_int Tryd.underlying3 (hval 1 3 v1 rfl rfl) h1
  obtain ⟨a2, rfl, rfl, rfl, w2⟩ := open_int Tryd.underlying3 (hval 2 3 v2 rfl rfl) h2
  refine (walk W b0 l0 a1 w1 a2 w2).mono fun e W' ⟨he, hb⟩ => ?_
  subst he
  exact ⟨_, rfl, Frame.close laidOut hW' rfl rfl rfl Tryd.underlying4 (fun t ht => by rw [Tryd.params4] at ht; simp at ht; rcases ht with rfl | rfl <;> exact ⟨by kernel_rfl, of_decide_eq_true (by kernel_rfl)⟩) hb⟩
theorem over : Rows.bitsMakesRow.holds Tryd.pinned (OpenSpec.ofChange Rows.bitsMakesSpec) :=
  OpenClaim.holds_of_wide 4 Tryd.f4 rfl rfl rfl rfl rfl rfl rfl ⟨rfl, rfl, rfl, rfl, rfl⟩ rfl rfl rfl rfl rfl (by kernel_rfl) Tryd.func4 (by kernel_rfl)
    (of_decide_eq_true (by kernel_rfl)) (by unfold Func.isWrapper; first | (rw [if_pos (by decide +kernel)]; kernel_rfl) | (rw [if_neg (by decide +kernel)]; exact ⟨rfl, rfl⟩))
    (fun os started H enc _ => lifted os started H enc)
/-- the statement -/
theorem proved : Rows.BitsMakesCardSaid :=
  Claim7.holds_tied_plain_at .later [] _ _ _ _ over (fun _ h => by cases h) (by kernel_rfl) (fun _ h => by cases h) bitsMakes_row_tie rfl ⟨rfl, rfl⟩ (by kernel_rfl) rfl
    (fun f fn hf hfn => by
      obtain rfl : f = 4 := Option.some.inj ((show Tryd.prog.funcNamed "tombola/tombolalaw07.BitsMakes" = some 4 by kernel_rfl).symm.trans hf) |>.symm
      obtain rfl : fn = Tryd.f4 := (Option.some.inj (Tryd.func4.symm.trans hfn)).symm
      exact ⟨by kernel_rfl, (fun j t ht => by
        rw [Tryd.params4] at ht
        have hm : t ∈ [9, 3, 3] := by simpa using Array.mem_of_getElem? ht
        have hall : ([9, 3, 3].all fun u => !Tryd.prog.wantsStandIn u) = true := by kernel_rfl
        exact (show Tryd.prog.wantsStandIn t = false by simpa using List.all_eq_true.1 hall t hm))⟩)
    (by kernel_rfl)
#print axioms proved
end Go.Proofs.YtcpkkceoobioiaaDoor.bitsMakes
