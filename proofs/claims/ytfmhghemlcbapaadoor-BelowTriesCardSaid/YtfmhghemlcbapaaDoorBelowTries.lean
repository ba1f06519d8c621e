/-
  PROVED: the statement BelowTries (tombolalaw09.BelowTries) about the landed commit: for every input the law returns true and leaves its arguments as they were. Conditions: none beyond those that the given row itself prints.
-/
import Derived.Test.YtfmhghemlcbapaaDoorCards
import Derived.Test.YtfmhghemlcbapaaDoorTie
import Derived.LaidMore
import Derived.Lay
import Derived.SevenTiedAt
import Derived.Stop.Joined
import Derived.Test.YtfmhghemlcbapaaDoorRows
import Derived.WalkKit
import Derived.ProofKit
import Derived.OpenShut
import Derived.RowKit3
import Derived.Test.YtfmhghemlcbapaaDoorGFrame
import Derived.Test.YtfmhghemlcbapaaDoorBelAwake
namespace Go.Proofs.YtfmhghemlcbapaaDoor.belowTries
open Go.ChangeShapes Go.WideShapes Go.ChangeAt Go.RowKit
set_option linter.unusedVariables false
set_option linter.unusedSimpArgs false
set_option maxRecDepth 20000
open N
theorem own : ownKnob Tryd.prog.godebug = none := by kernel_rfl

set_option maxRecDepth 100000 in
set_option maxHeartbeats 40000000 in
theorem walk (w : World) (b0 : List UInt8) (l0 : b0.length ≤ maxLen) (a1 : Int) (w1 : (Lit.int .u64 a1).wf = true) :
    Calls Tryd.prog 5 #[.string ⟨b0.toArray⟩, .int .u64 a1] w fun e w' => e = .returned (.bool true) ∧ Below w.heap.size w w' := by
  have HB := Lib.hid (Below.refl w.heap.size w)
  have lm0 := l0
  unfold maxLen at lm0
  have hx1 := bounds_u64 w1
  obtain ⟨m, rfl⟩ := Int.eq_ofNat_of_zero_le hx1.1
  have hm : m < 18446744073709551616 := by omega
  clear hx1
  by_cases hB : isB b0 = true
  · have HI := Lib.hid (fun W : World => (by have h := bis_any W b0 l0; rwa [hB] at h : Calls Tryd.prog 17 #[.string ⟨b0.toArray⟩] W fun e w' => e = .returned (.bool true) ∧ Below W.heap.size W w'))
    by_cases h0 : m = 0
    · subst h0
      clear l0 lm0 hm
      go_enter Tryd.func5, Tryd.ntmps5
      go_wp2_with (first
        | (go_at_call 17; refine (HI.out _).mono ?_; rintro e w1 ⟨rfl, hb⟩; have HB2 := Lib.hid (HB.out.trans (hb.mono HB.out.size)); clear hb HB; have HB := HB2; clear HB2)
        | (go_at_call 7; refine (awake9 _).mono ?_; rintro e w1 ⟨rfl, hb⟩; have HB2 := Lib.hid (HB.out.trans (hb.mono HB.out.size)); clear hb HB; have HB := HB2; clear HB2))
      go_ret
      first
        | exact ⟨rfl, HB.out⟩
        | (refine ⟨?_, HB.out⟩; simp)
    · have hne : ¬ (m : Int) = 0 := by omega
      obtain ⟨hlb, hbb⟩ := isB_iff.1 hB
      have HW := Lib.hid (fun W : World => width_any W m hm)
      have hb64 := wd_64 hm
      rcases hd : dr b0 0 false m with ⟨v, gd, a, o⟩
      have HY := Lib.hid (fun W : World => by_yes W hB hm hd)
      have hwz := wd_zero (m := m)
      rw [dr_in h0] at hd
      obtain ⟨b, hwb⟩ : ∃ b, wd m = b := ⟨_, rfl⟩
      rw [hwb] at HW hb64 hd hwz
      clear hwb l0 lm0 hm
      by_cases hz : b = 0
      · have hm1 : m = 1 := by have := hwz hz; omega
        subst hz
        have hd2 : drF b0 0 m (b0.length + 1) 0 = (0, true, 0, false) := by
          rw [drF_hit (by omega) (by rw [List.take_zero, numB]; omega), List.take_zero, numB]
        rw [hd2] at hd
        injection hd with e1 hd; injection hd with e2 hd; injection hd with e3 e4
        subst e1 e2 e3 e4
        have HW0 := Lib.hid (fun W : World => show Calls Tryd.prog 14 #[.int .u64 (m : Nat)] W fun e w' => e = .returned (.int .i64 0) ∧ Below W.heap.size W w' from HW.out W)
        have HY0 := Lib.hid (fun W : World => show Calls Tryd.prog 16 #[.string ⟨b0.toArray⟩, .int .u64 (m : Nat)] W fun e w' => e = .returned (.tuple #[.int .u64 0, .int .i64 0, .bool true]) ∧ Below W.heap.size W w' from HY.out W)
        clear hwz hd2 hb64 h0 HW HY hm1
        go_enter Tryd.func5, Tryd.ntmps5
        go_wp2_with (first
          | (go_at_call 17; refine (HI.out _).mono ?_; rintro e w1 ⟨rfl, hb⟩; have HB2 := Lib.hid (HB.out.trans (hb.mono HB.out.size)); clear hb HB; have HB := HB2; clear HB2)
          | (go_at_call 7; refine (awake9 _).mono ?_; rintro e w1 ⟨rfl, hb⟩; have HB2 := Lib.hid (HB.out.trans (hb.mono HB.out.size)); clear hb HB; have HB := HB2; clear HB2)
          | (go_at_call 14; refine (HW0.out _).mono ?_; rintro e w1 ⟨rfl, hb⟩; have HB2 := Lib.hid (HB.out.trans (hb.mono HB.out.size)); clear hb HB; have HB := HB2; clear HB2)
          | (go_at_call 16; refine (HY0.out _).mono ?_; rintro e w1 ⟨rfl, hb⟩; have HB2 := Lib.hid (HB.out.trans (hb.mono HB.out.size)); clear hb HB; have HB := HB2; clear HB2))
        go_ret
        first
          | exact ⟨rfl, HB.out⟩
          | (refine ⟨?_, HB.out⟩; simp)
      · have hb0 : 0 < b := by omega
        have hz0 : ¬ (b : Int) = 0 := by omega
        have hz1 : ¬ (b : Int) < 0 := by omega
        have hz2 : ¬ 64 < (b : Int) := by omega
        have HS := Lib.hid hd
        clear hwz hd h0 hz hB
        go_enter Tryd.func5, Tryd.ntmps5
        go_wp2_with (first
          | (go_at_call 17; refine (HI.out _).mono ?_; rintro e w1 ⟨rfl, hb⟩; have HB2 := Lib.hid (HB.out.trans (hb.mono HB.out.size)); clear hb HB; have HB := HB2; clear HB2)
          | (go_at_call 7; refine (awake9 _).mono ?_; rintro e w1 ⟨rfl, hb⟩; have HB2 := Lib.hid (HB.out.trans (hb.mono HB.out.size)); clear hb HB; have HB := HB2; clear HB2)
          | (go_at_call 14; refine (HW.out _).mono ?_; rintro e w1 ⟨rfl, hb⟩; have HB2 := Lib.hid (HB.out.trans (hb.mono HB.out.size)); clear hb HB; have HB := HB2; clear HB2)
          | (go_at_call 16; refine (HY.out _).mono ?_; rintro e w1 ⟨rfl, hb⟩; have HB2 := Lib.hid (HB.out.trans (hb.mono HB.out.size)); clear hb HB; have HB := HB2; clear HB2))
        go_loopw [9, 10, 11] (fun fr _ _ wr => ∃ k f, f ≤ b0.length ∧ b0.length < f + k ∧ drF b0 b m k f = (v, gd, a, o) ∧ fr = .int .i64 (f : Nat) ∧ Below w.heap.size w wr) (fun fr _ _ _ => b0.length + 1 - (intOf fr).toNat)
        case atStart =>
          exact ⟨b0.length + 1, 0, Nat.zero_le _, by omega, HS.out, rfl, HB.out⟩
        case round =>
          obtain ⟨k, f, hf, hk, hd, rfl, hbw⟩ := hrel
          clear HB
          have HB := Lib.hid hbw
          clear hbw
          obtain ⟨k, rfl⟩ : ∃ j, k = j + 1 := ⟨k - 1, by omega⟩
          obtain ⟨c, hc⟩ : ∃ c, f + b = c := ⟨_, rfl⟩
          have hwr : IntKind.i64.wrap ((f : Int) + (b : Int)) = (c : Int) := by rw [IntKind.wrap_i64]; omega
          by_cases h1 : b0.length < c
          · rw [drF_over (by omega)] at hd
            injection hd with e1 hd; injection hd with e2 hd; injection hd with e3 e4
            subst e1 e2 e3 e4
            have h2 : ¬ (c : Int) ≤ (b0.length : Int) := by omega
            clear hk hf hc h1
            go_wp2
            go_ret
            first
              | exact ⟨rfl, HB.out⟩
              | (refine ⟨?_, HB.out⟩; simp)
          · have h2 : (c : Int) ≤ (b0.length : Int) := by omega
            obtain ⟨p, hp⟩ : ∃ p, (b0.drop f).take b = p := ⟨_, rfl⟩
            have hpl : p.length = b := by rw [← hp, List.length_take, List.length_drop]; omega
            have hpB : isB p = true := isB_iff.2 ⟨by omega, by rw [← hp]; exact bitsL_take (bitsL_drop hbb f) b⟩
            have hsl : ∀ X : World, (Instr.slice 9 (.string ⟨b0.toArray⟩) (some (.int .i64 (f : Int))) (some (.int .i64 (c : Int))) none).run Tryd.prog X = .ok (.string ⟨p.toArray⟩) X := fun X => by
              have hsz : (⟨b0.toArray⟩ : ByteArray).size = b0.length := by simp [ByteArray.size]
              rw [run_slice_string X _ _ _ _ _ _ strU (by omega) (by omega) (by rw [hsz]; exact h2), Int.toNat_natCast, Int.toNat_natCast, ByteArray.extract_mk, show c - f = b by omega, hp]
            obtain ⟨nv, hnv⟩ : ∃ n, numB p = n := ⟨_, rfl⟩
            have HN := Lib.hid (fun W : World => (by
              have h := num_any W p (by unfold maxLen; omega)
              have h3 : nuE p = 0 ∧ nuV p = ((numB p : Nat) : Int) := by unfold nuE nuV; rw [if_pos hpB, if_pos (by omega), if_pos ⟨hpB, by omega⟩]; exact ⟨rfl, rfl⟩
              rwa [h3.1, h3.2, hnv] at h : Calls Tryd.prog 18 #[.string ⟨p.toArray⟩] W fun e w' => e = .returned (.tuple #[.int .u64 (nv : Nat), .int .i64 0]) ∧ Below W.heap.size W w'))
            by_cases h4 : nv < m
            · rw [drF_hit (by omega) (by rw [hp, hnv]; exact h4), hp, hnv, hc] at hd
              injection hd with e1 hd; injection hd with e2 hd; injection hd with e3 e4
              subst e1 e2 e3 e4
              have h5 : (nv : Int) < (m : Int) := by omega
              clear hk hf hc h1 hp hpl hpB hnv h4
              go_wp2_with (first
                | (go_at_call 18; refine (HN.out _).mono ?_; rintro e w1 ⟨rfl, hb⟩; have HB2 := Lib.hid (HB.out.trans (hb.mono HB.out.size)); clear hb HB; have HB := HB2; clear HB2))
              go_ret
              first
                | exact ⟨rfl, HB.out⟩
                | (refine ⟨?_, HB.out⟩; simp)
            · rw [drF_miss (by omega) (by rw [hp, hnv]; exact h4), hc] at hd
              have h5 : ¬ (nv : Int) < (m : Int) := by omega
              have HX := Lib.hid (show c ≤ b0.length ∧ b0.length < c + k by omega)
              have HP := Lib.hid (show b0.length + 1 - c < b0.length + 1 - f by omega)
              have HD := Lib.hid hd
              clear hk hf hc h1 hp hpl hpB hnv h4 hd
              go_wp2_with (first
                | (go_at_call 18; refine (HN.out _).mono ?_; rintro e w1 ⟨rfl, hb⟩; have HB2 := Lib.hid (HB.out.trans (hb.mono HB.out.size)); clear hb HB; have HB := HB2; clear HB2))
              go_roundw
              case rel => exact ⟨k, c, HX.out.1, HX.out.2, HD.out, rfl, HB.out⟩
              case measure => simpa [intOf] using HP.out
  · have hB2 : isB b0 = false := by simpa using hB
    have HI := Lib.hid (fun W : World => (by have h := bis_any W b0 l0; rwa [hB2] at h : Calls Tryd.prog 17 #[.string ⟨b0.toArray⟩] W fun e w' => e = .returned (.bool false) ∧ Below W.heap.size W w'))
    clear l0 lm0 hm hB hB2
    go_enter Tryd.func5, Tryd.ntmps5
    go_wp2_with (first
      | (go_at_call 17; refine (HI.out _).mono ?_; rintro e w1 ⟨rfl, hb⟩; have HB2 := Lib.hid (HB.out.trans (hb.mono HB.out.size)); clear hb HB; have HB := HB2; clear HB2)
      | (go_at_call 7; refine (awake9 _).mono ?_; rintro e w1 ⟨rfl, hb⟩; have HB2 := Lib.hid (HB.out.trans (hb.mono HB.out.size)); clear hb HB; have HB := HB2; clear HB2))
    go_ret
    first
      | exact ⟨rfl, HB.out⟩
      | (refine ⟨?_, HB.out⟩; simp)
set_option maxRecDepth 100000 in
theorem lifted (os : Os) (started : os.Started) (H : Type) (enc : TypeId × Value → H) :
    ReturnsInHanded {} Tryd.checked os 5 .any (fun w args => (Rows.belowTriesSpec.pre enc Tryd.prog Tryd.f5 Rows.belowTriesRow.domain false w args ∧ laidMetH Tryd.prog Rows.belowTriesRow.laid w) ∧ sizedMet enc Tryd.prog Tryd.f5 (OpenSpec.ofChange Rows.belowTriesSpec) false w args) (Rows.belowTriesSpec.post enc Tryd.prog Tryd.f5 false true false false) := by
  refine returnsInHanded_of_change_and (C := Tryd.checked) (X := fun w _ => laidMetH Tryd.prog Rows.belowTriesRow.laid w) (fun _ _ _ hh h => h.of_heap hh) own started (by kernel_rfl) Tryd.func5
    (ChangeSpec.witness_shaped (enc := enc) (C := Tryd.checked) (os := os) (X := fun w _ => laidMetH Tryd.prog Rows.belowTriesRow.laid w) false (World.laidAll Tryd.prog os Rows.belowTriesRow.laid) #[.string ByteArray.empty, .int .u64 0] 8 (World.laidAll_os _ _ _)
      (World.shaped_of_ZipB (by kernel_rfl) (by kernel_rfl)) (by kernel_rfl) (by kernel_rfl) (by kernel_rfl)
      (by rw [MakeChecks.laidMetH_plain _ _ _ (by kernel_rfl)]; exact laidMet_laidAll _ (by kernel_rfl) (by kernel_rfl))) ?_
  intro W base args ds gs before hval0 hW hcnd _ _ _
  have hval : ∀ (j : Nat) t v, Tryd.f5.params[j]? = some t → args[j]? = some v → Value.okWide Tryd.prog W .any base t v := hval0
  have hW' := hW
  obtain ⟨p, q, hA0, hV, hpq, hfz, hnd⟩ := hW
  have hA : DataW.TrodAll enc Tryd.prog W 0 (fun _ => true) true Tryd.f5.params.toList args.toList ds p := hA0
  rw [Tryd.params5] at hA hval
  obtain ⟨v0, vs0, d0, ds0, p0, q0, hargs, rfl, rfl, h0, r0⟩ := trodAll_cons hA
  obtain ⟨v1, vs1, d1, ds1, p1, q1, rfl, rfl, rfl, h1, r1⟩ := trodAll_cons r0
  obtain ⟨rfl, rfl, rfl⟩ := trodAll_nil r1
  obtain rfl : args = #[v0, v1] := by cases args; simp_all
  obtain ⟨rfl, rfl⟩ := trodVars_none hV
  obtain ⟨y0, rfl, rfl, rfl, l0⟩ := Go.ChangeMaps.open_string Tryd.underlying9 (hval 0 9 v0 rfl rfl) h0
  obtain ⟨b0, rfl⟩ : ∃ b : List UInt8, y0 = ⟨b.toArray⟩ := ⟨y0.data.toList, by cases y0; simp⟩
  obtain ⟨a1, rfl, rfl, rfl, w1⟩ := open_int Tryd.underlying31 (hval 1 31 v1 rfl rfl) h1
  refine (walk W b0 l0 a1 w1).mono fun e W' ⟨he, hb⟩ => ?_
  subst he
  exact ⟨_, rfl, Frame.close laidOut hW' rfl rfl rfl Tryd.underlying4 (fun t ht => by rw [Tryd.params5] at ht; simp at ht; rcases ht with rfl | rfl <;> exact ⟨by kernel_rfl, of_decide_eq_true (by kernel_rfl)⟩) hb⟩
theorem over : Rows.belowTriesRow.holds Tryd.pinned (OpenSpec.ofChange Rows.belowTriesSpec) :=
  OpenClaim.holds_of_wide 5 Tryd.f5 rfl rfl rfl rfl rfl rfl rfl ⟨rfl, rfl, rfl, rfl, rfl⟩ rfl rfl rfl rfl rfl (by kernel_rfl) Tryd.func5 (by kernel_rfl)
    (of_decide_eq_true (by kernel_rfl)) (by unfold Func.isWrapper; first | (rw [if_pos (by decide +kernel)]; kernel_rfl) | (rw [if_neg (by decide +kernel)]; exact ⟨rfl, rfl⟩))
    (fun os started H enc _ => lifted os started H enc)
/-- the statement -/
theorem proved : Rows.BelowTriesCardSaid :=
  Claim7.holds_tied_plain_at .later [] _ _ _ _ over (fun _ h => by cases h) (by kernel_rfl) (fun _ h => by cases h) belowTries_row_tie rfl ⟨rfl, rfl⟩ (by kernel_rfl) rfl
    (fun f fn hf hfn => by
      obtain rfl : f = 5 := Option.some.inj ((show Tryd.prog.funcNamed "tombola/tombolalaw09.BelowTries" = some 5 by kernel_rfl).symm.trans hf) |>.symm
      obtain rfl : fn = Tryd.f5 := (Option.some.inj (Tryd.func5.symm.trans hfn)).symm
      exact ⟨by kernel_rfl, (fun j t ht => by
        rw [Tryd.params5] at ht
        have hm : t ∈ [9, 31] := by simpa using Array.mem_of_getElem? ht
        have hall : ([9, 31].all fun u => !Tryd.prog.wantsStandIn u) = true := by kernel_rfl
        exact (show Tryd.prog.wantsStandIn t = false by simpa using List.all_eq_true.1 hall t hm))⟩)
    (by kernel_rfl)
#print axioms proved
end Go.Proofs.YtfmhghemlcbapaaDoor.belowTries
