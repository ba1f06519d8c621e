/-
  PROVED: the statement DecReads (tombolalaw04.DecReads) about the landed commit: for every input the law returns true and leaves its arguments as they were. Conditions: none beyond those that the given row itself prints.
-/
import Derived.Test.YtbadbjmhmadbmaaDoorCards
import Derived.Test.YtbadbjmhmadbmaaDoorTie
import Derived.LaidMore
import Derived.Lay
import Derived.SevenTiedAt
import Derived.Stop.Joined
import Derived.Test.YtbadbjmhmadbmaaDoorRows
import Derived.WalkKit
import Derived.ProofKit
import Derived.OpenShut
import Derived.RowKit3
import Derived.Test.YtbadbjmhmadbmaaDoorLawFrame
import Derived.Test.YtbadbjmhmadbmaaDoorNatOpen
import Derived.Test.YtbadbjmhmadbmaaDoorDecAwake
namespace Go.Proofs.YtbadbjmhmadbmaaDoor.decReads
open Go.ChangeShapes Go.WideShapes Go.ChangeAt Go.RowKit
set_option linter.unusedVariables false
set_option maxRecDepth 20000
open N
theorem own : ownKnob Tryd.prog.godebug = none := by kernel_rfl
open Go.Lib (decDigits nDigits decDigits_length nDigits_pos)
set_option maxRecDepth 100000 in
set_option maxHeartbeats 4000000 in
theorem walk (w : World) (b0 : List UInt8) (l0 : b0.length ≤ maxLen) :
    Calls Tryd.prog 4 #[.string ⟨b0.toArray⟩] w fun e w' => e = .returned (.bool true) ∧ Below w.heap.size w w' := by
  have lm := l0
  unfold maxLen at lm
  by_cases hl : b0.length ≤ 500
  · go_enter Tryd.func4, Tryd.ntmps4
    go_wp2_with fail
    go_at_call 18
    refine (rread_any w b0 l0).mono ?_
    rintro e w1 ⟨A1, n1, c1, rfl, hn1, ho1, hb1⟩
    have HW := Lib.hid ho1.sl
    have HB1 := Lib.hid hb1
    obtain ⟨q, hq⟩ : ∃ q, rdE b0 = q := ⟨_, rfl⟩
    rw [hq]
    clear ho1 hb1
    go_wp2_with fail
    go_loopw [5] (fun i wr => ∃ k : Nat, k ≤ 2 ∧ i = .int .i64 k ∧ Below w1.heap.size w1 wr) (fun i _ => 2 - (intOf i).toNat)
    case atStart => exact ⟨0, by omega, rfl, Below.refl _ _⟩
    case round =>
      obtain ⟨k, hk, rfl, hbr⟩ := hrel
      obtain ⟨wi, rfl⟩ : ∃ wi : World, wi = wr := ⟨_, rfl⟩
      have HBR := Lib.hid hbr
      clear hbr
      by_cases hk2 : k < 2
      · go_wp2_with fail
        go_at_call 19
        refine (pread_any wi b0 l0).mono ?_
        rw [hq]
        rintro e w2 ⟨A2, n2, c2, rfl, hn2, ho2, hb2⟩
        have HO2 := Lib.hid ho2
        have HB2 := Lib.hid hb2
        have HW2 := Lib.hid ((HW.out.below HBR.out).below hb2)
        clear ho2 hb2
        go_wp2_with fail
        go_at_call 20
        refine (same_any _ _ _ _ _ _ _ _ _ HO2.out.sl HW2.out).mono ?_
        rw [decide_eq_true rfl]
        rintro e w3 ⟨rfl, q3, rfl⟩
        have HO3 := Lib.hid (HO2.out.below (⟨rfl, rfl, rfl, Nat.le_refl _, fun _ _ => rfl⟩ : Below w2.heap.size w2 (w2.drewN q3)))
        have HB3 := Lib.hid (HB2.out.trans (⟨rfl, rfl, rfl, Nat.le_refl _, fun _ _ => rfl⟩ : Below wi.heap.size w2 (w2.drewN q3)))
        go_wp2_with fail
        go_loopw [8] (fun i wr => ∃ (j : Nat) (zs : List Int), j ≤ n2 ∧ i = .int .i64 j ∧ N.Own wr wi.heap.size A2 n2 c2 zs ∧ Below wi.heap.size wi wr) (fun i _ => n2 - (intOf i).toNat)
        case atStart => exact ⟨0, _, Nat.zero_le _, rfl, HO3.out, HB3.out⟩
        case round =>
          obtain ⟨j, zs, hj, rfl, ho, hb⟩ := hrel
          obtain ⟨wj, rfl⟩ : ∃ wj : World, wj = wr := ⟨_, rfl⟩
          by_cases hjn : j < n2
          · obtain ⟨g, rfl, hg, hnc, hcm, hP⟩ := ho.arp (by omega)
            have hzl := ho.len
            have hcz := hP.cell (k := j) (by omega)
            have hfz := hP.frozen j
            have HP := Lib.hid (hP.set j 77 (by omega))
            have HZD := Lib.hid (ho.dg.set j (v := 77) (by omega) (by decide))
            have HBj := Lib.hid hb
            have HZL := Lib.hid hzl
            clear ho hb hP hzl
            go_wp2
            go_roundw
            case rel => exact ⟨j + 1, _, by omega, by go_num, HP.out.own hg (by rw [List.length_set]; exact HZL.out) (by omega) hcm HZD.out, HBj.out.setCell hg _⟩
            case measure => simp [intOf]; omega
          · obtain rfl : j = n2 := by omega
            have HBj := Lib.hid hb
            clear ho hb
            go_wp2
            go_roundw
            case rel => exact ⟨k + 1, by omega, by go_num, HBR.out.trans (HBj.out.mono HBR.out.size)⟩
            case measure => simp [intOf]; omega
      · obtain rfl : k = 2 := by omega
        go_wp2_with fail
        go_at_call 13
        refine (dawake_any _).mono ?_
        rintro e w9 ⟨rfl, hb9⟩
        go_wp2
        go_ret
        have hb4 := HB1.out.trans (HBR.out.mono HB1.out.size)
        exact ⟨rfl, hb4.trans (hb9.mono hb4.size)⟩
  · go_enter Tryd.func4, Tryd.ntmps4
    go_wp2_with fail
    go_at_call 13
    refine (dawake_any _).mono ?_
    rintro e w9 ⟨rfl, hb9⟩
    go_wp2
    go_ret
    exact ⟨rfl, hb9⟩
set_option maxRecDepth 100000 in
theorem lifted (os : Os) (started : os.Started) (H : Type) (enc : TypeId × Value → H) :
    ReturnsInHanded {} Tryd.checked os 4 .any (fun w args => (Rows.decReadsSpec.pre enc Tryd.prog Tryd.f4 Rows.decReadsRow.domain false w args ∧ laidMetH Tryd.prog Rows.decReadsRow.laid w) ∧ sizedMet enc Tryd.prog Tryd.f4 (OpenSpec.ofChange Rows.decReadsSpec) false w args) (Rows.decReadsSpec.post enc Tryd.prog Tryd.f4 false true false false) := by
  refine returnsInHanded_of_change_and (C := Tryd.checked) (X := fun w _ => laidMetH Tryd.prog Rows.decReadsRow.laid w) (fun _ _ _ hh h => h.of_heap hh) own started (by kernel_rfl) Tryd.func4
    (ChangeSpec.witness_shaped (enc := enc) (C := Tryd.checked) (os := os) (X := fun w _ => laidMetH Tryd.prog Rows.decReadsRow.laid w) false (World.laidAll Tryd.prog os Rows.decReadsRow.laid) #[.string ByteArray.empty] 8 (World.laidAll_os _ _ _)
      (World.shaped_of_ZipB (by kernel_rfl) (by kernel_rfl)) (by kernel_rfl) (by kernel_rfl) (by kernel_rfl)
      (by rw [MakeChecks.laidMetH_plain _ _ _ (by kernel_rfl)]; exact laidMet_laidAll _ (by kernel_rfl) (by kernel_rfl))) ?_
  intro W base args ds gs before hval0 hW hcnd _ _ _
  have hval : ∀ (j : Nat) t v, Tryd.f4.params[j]? = some t → args[j]? = some v → Value.okWide Tryd.prog W .any base t v := hval0
  have hW' := hW
  obtain ⟨p, q, hA0, hV, hpq, hfz, hnd⟩ := hW
  have hA : DataW.TrodAll enc Tryd.prog W 0 (fun _ => true) true Tryd.f4.params.toList args.toList ds p := hA0
  rw [Tryd.params4] at hA hval
  obtain ⟨v0, vs0, d0, ds0, p0, q0, hargs, rfl, rfl, h0, r0⟩ := trodAll_cons hA
  obtain ⟨rfl, rfl, rfl⟩ := trodAll_nil r0
  obtain rfl : args = #[v0] := by cases args; simp_all
  obtain ⟨rfl, rfl⟩ := trodVars_none hV
  obtain ⟨y0, rfl, rfl, rfl, l0⟩ := Go.ChangeMaps.open_string Tryd.underlying9 (hval 0 9 v0 rfl rfl) h0
  obtain ⟨b0, rfl⟩ : ∃ b : List UInt8, y0 = ⟨b.toArray⟩ := ⟨y0.data.toList, by cases y0; simp⟩
  refine (walk W b0 l0).mono fun e W' ⟨he, hb⟩ => ?_
  subst he
  exact ⟨_, rfl, Frame.close laidOut hW' rfl rfl rfl Tryd.underlying4 (fun t ht => by rw [Tryd.params4] at ht; simp at ht; rcases ht with rfl <;> exact ⟨by kernel_rfl, of_decide_eq_true (by kernel_rfl)⟩) hb⟩
theorem over : Rows.decReadsRow.holds Tryd.pinned (OpenSpec.ofChange Rows.decReadsSpec) :=
  OpenClaim.holds_of_wide 4 Tryd.f4 rfl rfl rfl rfl rfl rfl rfl ⟨rfl, rfl, rfl, rfl, rfl⟩ rfl rfl rfl rfl rfl (by kernel_rfl) Tryd.func4 (by kernel_rfl)
    (of_decide_eq_true (by kernel_rfl)) (by unfold Func.isWrapper; first | (rw [if_pos (by decide +kernel)]; kernel_rfl) | (rw [if_neg (by decide +kernel)]; exact ⟨rfl, rfl⟩))
    (fun os started H enc _ => lifted os started H enc)
/-- the statement -/
theorem proved : Rows.DecReadsCardSaid :=
  Claim7.holds_tied_plain_at .later [] _ _ _ _ over (fun _ h => by cases h) (by kernel_rfl) (fun _ h => by cases h) decReads_row_tie rfl ⟨rfl, rfl⟩ (by kernel_rfl) rfl
    (fun f fn hf hfn => by
      obtain rfl : f = 4 := Option.some.inj ((show Tryd.prog.funcNamed "tombola/tombolalaw04.DecReads" = some 4 by kernel_rfl).symm.trans hf) |>.symm
      obtain rfl : fn = Tryd.f4 := (Option.some.inj (Tryd.func4.symm.trans hfn)).symm
      exact ⟨by kernel_rfl, (fun j t ht => by
        rw [Tryd.params4] at ht
        have hm : t ∈ [9] := by simpa using Array.mem_of_getElem? ht
        have hall : ([9].all fun u => !Tryd.prog.wantsStandIn u) = true := by kernel_rfl
        exact (show Tryd.prog.wantsStandIn t = false by simpa using List.all_eq_true.1 hall t hm))⟩)
    (by kernel_rfl)
#print axioms proved
end Go.Proofs.YtbadbjmhmadbmaaDoor.decReads
