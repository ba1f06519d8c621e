/-
  PROVED: the statement BelowFront (tombolalaw09.BelowFront) about the landed commit: for every input the law returns true and leaves its arguments as they were. Conditions: none beyond those that the given row itself prints.
-/
import Derived.Test.YtfmhghemlcbapaaDoorCards
import Derived.Test.YtfmhghemlcbapaaDoorTie
import Derived.LaidMore
import Derived.Lay
import Derived.SevenTiedAt
import Derived.Stop.Joined
import Derived.Test.YtfmhghemlcbapaaDoorRows
import Derived.WalkKit
import Derived.ProofKit
import Derived.OpenShut
import Derived.RowKit3
import Derived.Test.YtfmhghemlcbapaaDoorGFrame
import Derived.Test.YtfmhghemlcbapaaDoorBelAwake
namespace Go.Proofs.YtfmhghemlcbapaaDoor.belowFront
open Go.ChangeShapes Go.WideShapes Go.ChangeAt Go.RowKit
set_option linter.unusedVariables false
set_option linter.unusedSimpArgs false
set_option maxRecDepth 20000
open N
theorem own : ownKnob Tryd.prog.godebug = none := by kernel_rfl

set_option maxRecDepth 100000 in
set_option maxHeartbeats 40000000 in
theorem walk (w : World) (b0 : List UInt8) (l0 : b0.length ≤ maxLen) (b1 : List UInt8) (l1 : b1.length ≤ maxLen) (a2 : Int) (w2 : (Lit.int .u64 a2).wf = true) (a3 : Int) (w3 : (Lit.int .u16 a3).wf = true) :
    Calls Tryd.prog 6 #[.string ⟨b0.toArray⟩, .string ⟨b1.toArray⟩, .int .u64 a2, .int .u16 a3] w fun e w' => e = .returned (.bool true) ∧ Below w.heap.size w w' := by
  have HB := Lib.hid (Below.refl w.heap.size w)
  have lm0 := l0
  unfold maxLen at lm0
  have lm1 := l1
  unfold maxLen at lm1
  have hx2 := bounds_u64 w2
  obtain ⟨m, rfl⟩ := Int.eq_ofNat_of_zero_le hx2.1
  have hm : m < 18446744073709551616 := by omega
  clear hx2
  have hcu := bounds_u16 w3
  obtain ⟨ct, rfl⟩ := Int.eq_ofNat_of_zero_le hcu.1
  by_cases h0 : isB b0 = true
  · by_cases h1 : isB b1 = true
    · have HI := Lib.hid (fun W : World => (by have h := bis_any W b0 l0; rwa [h0] at h : Calls Tryd.prog 17 #[.string ⟨b0.toArray⟩] W fun e w' => e = .returned (.bool true) ∧ Below W.heap.size W w'))
      have HJ := Lib.hid (fun W : World => (by have h := bis_any W b1 l1; rwa [h1] at h : Calls Tryd.prog 17 #[.string ⟨b1.toArray⟩] W fun e w' => e = .returned (.bool true) ∧ Below W.heap.size W w'))
      obtain ⟨n0, hb0⟩ := isB_iff.1 h0
      obtain ⟨n1, hb1⟩ := isB_iff.1 h1
      have hwl : IntKind.i64.wrap ((b0.length : Int) + (b1.length : Int)) = (b0.length : Int) + (b1.length : Int) := by rw [IntKind.wrap_i64]; omega
      by_cases h2 : 1024 < b0.length + b1.length
      · have h3 : 1024 < (b0.length : Int) + (b1.length : Int) := by omega
        clear l0 lm0 l1 lm1 hm h0 h1 hcu n0 n1 h2
        go_enter Tryd.func6, Tryd.ntmps6
        go_wp2_with (first
          | (go_at_call_of 17 (Value.string ⟨b0.toArray⟩); refine (HI.out _).mono ?_; rintro e w1 ⟨rfl, hb⟩; have HB2 := Lib.hid (HB.out.trans (hb.mono HB.out.size)); clear hb HB; have HB := HB2; clear HB2)
          | (go_at_call_of 17 (Value.string ⟨b1.toArray⟩); refine (HJ.out _).mono ?_; rintro e w1 ⟨rfl, hb⟩; have HB2 := Lib.hid (HB.out.trans (hb.mono HB.out.size)); clear hb HB; have HB := HB2; clear HB2)
          | (go_at_call 7; refine (awake9 _).mono ?_; rintro e w1 ⟨rfl, hb⟩; have HB2 := Lib.hid (HB.out.trans (hb.mono HB.out.size)); clear hb HB; have HB := HB2; clear HB2))
        go_ret
        first
          | exact ⟨rfl, HB.out⟩
          | (refine ⟨?_, HB.out⟩; simp)
      · have h3 : ¬ 1024 < (b0.length : Int) + (b1.length : Int) := by omega
        rcases hd : dr b0 0 false m with ⟨v, gd, a, o⟩
        obtain ⟨q1, q2, q3⟩ := dr_ways hd
        have HY := Lib.hid (fun W : World => by_yes W h0 hm hd)
        have ha := q2 (Nat.zero_le _)
        have hz1 : ¬ (a : Int) < 0 := by omega
        have hz2 : ¬ (b0.length : Int) < (a : Int) := by omega
        by_cases hg : gd = true
        · subst hg
          obtain ⟨hm0, ho⟩ : m ≠ 0 ∧ o = false := by
            rcases q3 with ⟨_, _, e, f⟩ | ⟨e, _⟩
            · exact ⟨f, e⟩
            · cases e
          subst ho
          rw [dr_in hm0] at hd
          obtain ⟨s, hs⟩ : ∃ s, b0.take a ++ b1 = s := ⟨_, rfl⟩
          have hsl : s.length = a + b1.length := by rw [← hs, List.length_append, List.length_take]; omega
          have hst : b0.take a = s.take a := by rw [← hs, List.take_append_of_le_length (by rw [List.length_take]; omega), List.take_take, Nat.min_self]
          have hsB : isB s = true := isB_iff.2 ⟨by omega, by rw [← hs, bitsL_append, bitsL_take hb0 a, hb1]; rfl⟩
          have hsd : dr s 0 false m = (v, true, a, false) := by
            rw [dr_in hm0]
            have e1 := drF_front hd ha (by omega) hst (Nat.le_max_left (b0.length + 1) (s.length + 1))
            rw [← e1]
            exact drF_fuel (.inr (by omega)) (by omega) (by omega) (Nat.zero_le _)
          have HZ := Lib.hid (fun W : World => by_yes W hsB hm hsd)
          have hex : (⟨b0.toArray⟩ : ByteArray).extract 0 a = ⟨(b0.take a).toArray⟩ := by
            apply ByteArray.ext
            simp
          have hap : (⟨(b0.take a).toArray⟩ : ByteArray) ++ ⟨b1.toArray⟩ = ⟨s.toArray⟩ := by rw [← hs]; exact ByteArray.mk_append_mk _ b1
          obtain ⟨pa, hpa⟩ : ∃ p, b0.take a = p := ⟨_, rfl⟩
          have npa : pa.length ≤ 1024 := by rw [← hpa, List.length_take]; omega
          rw [hpa] at hex hap
          by_cases ha0 : a = 0
          · subst ha0
            obtain rfl : b1 = s := by rw [← hs]; simp
            clear l0 lm0 l1 lm1 hm hm0 h0 h1 hcu n0 n1 h2 hd q1 q2 q3 hs hsl hst hsB hsd
            go_enter Tryd.func6, Tryd.ntmps6
            go_wp2_with (first
              | (go_at_call_of 17 (Value.string ⟨b0.toArray⟩); refine (HI.out _).mono ?_; rintro e w1 ⟨rfl, hb⟩; have HB2 := Lib.hid (HB.out.trans (hb.mono HB.out.size)); clear hb HB; have HB := HB2; clear HB2)
              | (go_at_call_of 17 (Value.string ⟨b1.toArray⟩); refine (HJ.out _).mono ?_; rintro e w1 ⟨rfl, hb⟩; have HB2 := Lib.hid (HB.out.trans (hb.mono HB.out.size)); clear hb HB; have HB := HB2; clear HB2)
              | (go_at_call 7; refine (awake9 _).mono ?_; rintro e w1 ⟨rfl, hb⟩; have HB2 := Lib.hid (HB.out.trans (hb.mono HB.out.size)); clear hb HB; have HB := HB2; clear HB2)
              | (go_at_call_of 16 (Value.string ⟨b0.toArray⟩); refine (HY.out _).mono ?_; rintro e w1 ⟨rfl, hb⟩; have HB2 := Lib.hid (HB.out.trans (hb.mono HB.out.size)); clear hb HB; have HB := HB2; clear HB2)
              | (go_at_call_of 16 (Value.string ⟨b1.toArray⟩); refine (HZ.out _).mono ?_; rintro e w1 ⟨rfl, hb⟩; have HB2 := Lib.hid (HB.out.trans (hb.mono HB.out.size)); clear hb HB; have HB := HB2; clear HB2))
            go_ret
            first
              | exact ⟨rfl, HB.out⟩
              | (refine ⟨?_, HB.out⟩; simp)
          · have hz3 : ¬ (a : Int) = 0 := by omega
            obtain ⟨c, hc⟩ : ∃ c, ct % a = c := ⟨_, rfl⟩
            have hca : c < a := by rw [← hc]; exact Nat.mod_lt _ (by omega)
            have hrm : (ct : Int).tmod (a : Int) = (c : Int) := by rw [Int.tmod_eq_emod_of_nonneg (by omega), ← hc]; rfl
            have hex2 : (⟨b0.toArray⟩ : ByteArray).extract 0 c = ⟨(b0.take c).toArray⟩ := by
              apply ByteArray.ext
              simp
            obtain ⟨u, hu⟩ : ∃ u, b0.take c = u := ⟨_, rfl⟩
            have hul : u.length = c := by rw [← hu, List.length_take]; omega
            have huB : isB u = true := isB_iff.2 ⟨by omega, by rw [← hu]; exact bitsL_take hb0 c⟩
            rcases hud : dr u 0 false m with ⟨v2, gd2, a2, o2⟩
            have hg2 : gd2 = false := by
              obtain ⟨p1, p2, p3⟩ := dr_ways hud
              rcases p3 with ⟨rfl, _⟩ | ⟨e, _⟩
              · rw [dr_in hm0] at hud
                have hle := p2 (Nat.zero_le _)
                have e1 := drF_front (l' := b0) hud hle (by omega) (by rw [← hu, List.take_take, Nat.min_eq_left (by omega)]) (Nat.le_max_left (u.length + 1) (b0.length + 1))
                have e2 : drF b0 (wd m) m (b0.length + 1) 0 = drF b0 (wd m) m (max (u.length + 1) (b0.length + 1)) 0 := drF_fuel (.inr (by omega)) (by omega) (by omega) (Nat.zero_le _)
                rw [e1, hd] at e2
                injection e2 with _ e2; injection e2 with _ e2; injection e2 with e3 _
                omega
              · exact e
            subst hg2
            have HU := Lib.hid (fun W : World => by_yes W huB hm hud)
            rw [hu] at hex2
            have hcl : (c : Int) ≤ (b0.length : Int) := by omega
            clear l0 lm0 l1 lm1 hm hm0 h0 h1 n0 h2 hd q1 q2 q3 hs hsl hst hsB hsd hpa hc hu hul huB hud hca ha0
            go_enter Tryd.func6, Tryd.ntmps6
            go_wp2_with (first
              | (go_at_call_of 17 (Value.string ⟨b0.toArray⟩); refine (HI.out _).mono ?_; rintro e w1 ⟨rfl, hb⟩; have HB2 := Lib.hid (HB.out.trans (hb.mono HB.out.size)); clear hb HB; have HB := HB2; clear HB2)
              | (go_at_call_of 17 (Value.string ⟨b1.toArray⟩); refine (HJ.out _).mono ?_; rintro e w1 ⟨rfl, hb⟩; have HB2 := Lib.hid (HB.out.trans (hb.mono HB.out.size)); clear hb HB; have HB := HB2; clear HB2)
              | (go_at_call 7; refine (awake9 _).mono ?_; rintro e w1 ⟨rfl, hb⟩; have HB2 := Lib.hid (HB.out.trans (hb.mono HB.out.size)); clear hb HB; have HB := HB2; clear HB2)
              | (go_at_call_of 16 (Value.string ⟨b0.toArray⟩); refine (HY.out _).mono ?_; rintro e w1 ⟨rfl, hb⟩; have HB2 := Lib.hid (HB.out.trans (hb.mono HB.out.size)); clear hb HB; have HB := HB2; clear HB2)
              | (go_at_call_of 16 (Value.string ⟨s.toArray⟩); refine (HZ.out _).mono ?_; rintro e w1 ⟨rfl, hb⟩; have HB2 := Lib.hid (HB.out.trans (hb.mono HB.out.size)); clear hb HB; have HB := HB2; clear HB2)
              | (go_at_call_of 16 (Value.string ⟨u.toArray⟩); refine (HU.out _).mono ?_; rintro e w1 ⟨rfl, hb⟩; have HB2 := Lib.hid (HB.out.trans (hb.mono HB.out.size)); clear hb HB; have HB := HB2; clear HB2))
            go_ret
            first
              | exact ⟨rfl, HB.out⟩
              | (refine ⟨?_, HB.out⟩; simp)
        · obtain ⟨rfl, rfl⟩ : gd = false ∧ v = 0 := by
            rcases q3 with ⟨e, _⟩ | ⟨e, f, _⟩
            · exact absurd e hg
            · exact ⟨e, f⟩
          clear l0 lm0 l1 lm1 hm h0 h1 hcu n0 n1 h2 hd q1 q2 q3 hg ha
          go_enter Tryd.func6, Tryd.ntmps6
          go_wp2_with (first
            | (go_at_call_of 17 (Value.string ⟨b0.toArray⟩); refine (HI.out _).mono ?_; rintro e w1 ⟨rfl, hb⟩; have HB2 := Lib.hid (HB.out.trans (hb.mono HB.out.size)); clear hb HB; have HB := HB2; clear HB2)
            | (go_at_call_of 17 (Value.string ⟨b1.toArray⟩); refine (HJ.out _).mono ?_; rintro e w1 ⟨rfl, hb⟩; have HB2 := Lib.hid (HB.out.trans (hb.mono HB.out.size)); clear hb HB; have HB := HB2; clear HB2)
            | (go_at_call 7; refine (awake9 _).mono ?_; rintro e w1 ⟨rfl, hb⟩; have HB2 := Lib.hid (HB.out.trans (hb.mono HB.out.size)); clear hb HB; have HB := HB2; clear HB2)
            | (go_at_call 16; refine (HY.out _).mono ?_; rintro e w1 ⟨rfl, hb⟩; have HB2 := Lib.hid (HB.out.trans (hb.mono HB.out.size)); clear hb HB; have HB := HB2; clear HB2))
          go_ret
          first
            | exact ⟨rfl, HB.out⟩
            | (refine ⟨?_, HB.out⟩; simp)
    · have hB1 : isB b1 = false := by simpa using h1
      have HI := Lib.hid (fun W : World => (by have h := bis_any W b0 l0; rwa [h0] at h : Calls Tryd.prog 17 #[.string ⟨b0.toArray⟩] W fun e w' => e = .returned (.bool true) ∧ Below W.heap.size W w'))
      have HJ := Lib.hid (fun W : World => (by have h := bis_any W b1 l1; rwa [hB1] at h : Calls Tryd.prog 17 #[.string ⟨b1.toArray⟩] W fun e w' => e = .returned (.bool false) ∧ Below W.heap.size W w'))
      clear l0 lm0 l1 lm1 hm hB1 h0 h1 hcu
      go_enter Tryd.func6, Tryd.ntmps6
      go_wp2_with (first
        | (go_at_call_of 17 (Value.string ⟨b0.toArray⟩); refine (HI.out _).mono ?_; rintro e w1 ⟨rfl, hb⟩; have HB2 := Lib.hid (HB.out.trans (hb.mono HB.out.size)); clear hb HB; have HB := HB2; clear HB2)
        | (go_at_call_of 17 (Value.string ⟨b1.toArray⟩); refine (HJ.out _).mono ?_; rintro e w1 ⟨rfl, hb⟩; have HB2 := Lib.hid (HB.out.trans (hb.mono HB.out.size)); clear hb HB; have HB := HB2; clear HB2)
        | (go_at_call 7; refine (awake9 _).mono ?_; rintro e w1 ⟨rfl, hb⟩; have HB2 := Lib.hid (HB.out.trans (hb.mono HB.out.size)); clear hb HB; have HB := HB2; clear HB2))
      go_ret
      first
        | exact ⟨rfl, HB.out⟩
        | (refine ⟨?_, HB.out⟩; simp)
  · have hB0 : isB b0 = false := by simpa using h0
    have HI := Lib.hid (fun W : World => (by have h := bis_any W b0 l0; rwa [hB0] at h : Calls Tryd.prog 17 #[.string ⟨b0.toArray⟩] W fun e w' => e = .returned (.bool false) ∧ Below W.heap.size W w'))
    clear l0 lm0 l1 lm1 hm hB0 h0 hcu
    go_enter Tryd.func6, Tryd.ntmps6
    go_wp2_with (first
      | (go_at_call 17; refine (HI.out _).mono ?_; rintro e w1 ⟨rfl, hb⟩; have HB2 := Lib.hid (HB.out.trans (hb.mono HB.out.size)); clear hb HB; have HB := HB2; clear HB2)
      | (go_at_call 7; refine (awake9 _).mono ?_; rintro e w1 ⟨rfl, hb⟩; have HB2 := Lib.hid (HB.out.trans (hb.mono HB.out.size)); clear hb HB; have HB := HB2; clear HB2))
    go_ret
    first
      | exact ⟨rfl, HB.out⟩
      | (refine ⟨?_, HB.out⟩; simp)
set_option maxRecDepth 100000 in
theorem lifted (os : Os) (started : os.Started) (H : Type) (enc : TypeId × Value → H) :
    ReturnsInHanded {} Tryd.checked os 6 .any (fun w args => (Rows.belowFrontSpec.pre enc Tryd.prog Tryd.f6 Rows.belowFrontRow.domain false w args ∧ laidMetH Tryd.prog Rows.belowFrontRow.laid w) ∧ sizedMet enc Tryd.prog Tryd.f6 (OpenSpec.ofChange Rows.belowFrontSpec) false w args) (Rows.belowFrontSpec.post enc Tryd.prog Tryd.f6 false true false false) := by
  refine returnsInHanded_of_change_and (C := Tryd.checked) (X := fun w _ => laidMetH Tryd.prog Rows.belowFrontRow.laid w) (fun _ _ _ hh h => h.of_heap hh) own started (by kernel_rfl) Tryd.func6
    (ChangeSpec.witness_shaped (enc := enc) (C := Tryd.checked) (os := os) (X := fun w _ => laidMetH Tryd.prog Rows.belowFrontRow.laid w) false (World.laidAll Tryd.prog os Rows.belowFrontRow.laid) #[.string ByteArray.empty, .string ByteArray.empty, .int .u64 0, .int .u16 0] 8 (World.laidAll_os _ _ _)
      (World.shaped_of_ZipB (by kernel_rfl) (by kernel_rfl)) (by kernel_rfl) (by kernel_rfl) (by kernel_rfl)
      (by rw [MakeChecks.laidMetH_plain _ _ _ (by kernel_rfl)]; exact laidMet_laidAll _ (by kernel_rfl) (by kernel_rfl))) ?_
  intro W base args ds gs before hval0 hW hcnd _ _ _
  have hval : ∀ (j : Nat) t v, Tryd.f6.params[j]? = some t → args[j]? = some v → Value.okWide Tryd.prog W .any base t v := hval0
  have hW' := hW
  obtain ⟨p, q, hA0, hV, hpq, hfz, hnd⟩ := hW
  have hA : DataW.TrodAll enc Tryd.prog W 0 (fun _ => true) true Tryd.f6.params.toList args.toList ds p := hA0
  rw [Tryd.params6] at hA hval
  obtain ⟨v0, vs0, d0, ds0, p0, q0, hargs, rfl, rfl, h0, r0⟩ := trodAll_cons hA
  obtain ⟨v1, vs1, d1, ds1, p1, q1, rfl, rfl, rfl, h1, r1⟩ := trodAll_cons r0
  obtain ⟨v2, vs2, d2, ds2, p2, q2, rfl, rfl, rfl, h2, r2⟩ := trodAll_cons r1
  obtain ⟨v3, vs3, d3, ds3, p3, q3, rfl, rfl, rfl, h3, r3⟩ := trodAll_cons r2
  obtain ⟨rfl, rfl, rfl⟩ := trodAll_nil r3
  obtain rfl : args = #[v0, v1, v2, v3] := by cases args; simp_all
  obtain ⟨rfl, rfl⟩ := trodVars_none hV
  obtain ⟨y0, rfl, rfl, rfl, l0⟩ := Go.ChangeMaps.open_string Tryd.underlying9 (hval 0 9 v0 rfl rfl) h0
  obtain ⟨b0, rfl⟩ : ∃ b : List UInt8, y0 = ⟨b.toArray⟩ := ⟨y0.data.toList, by cases y0; simp⟩
  obtain ⟨y1, rfl, rfl, rfl, l1⟩ := Go.ChangeMaps.open_string Tryd.underlying9 (hval 1 9 v1 rfl rfl) h1
  obtain ⟨b1, rfl⟩ : ∃ b : List UInt8, y1 = ⟨b.toArray⟩ := ⟨y1.data.toList, by cases y1; simp⟩
  obtain ⟨a2, rfl, rfl, rfl, w2⟩ := open_int Tryd.underlying31 (hval 2 31 v2 rfl rfl) h2
  obtain ⟨a3, rfl, rfl, rfl, w3⟩ := open_int Tryd.underlying51 (hval 3 51 v3 rfl rfl) h3
  refine (walk W b0 l0 b1 l1 a2 w2 a3 w3).mono fun e W' ⟨he, hb⟩ => ?_
  subst he
  exact ⟨_, rfl, Frame.close laidOut hW' rfl rfl rfl Tryd.underlying4 (fun t ht => by rw [Tryd.params6] at ht; simp at ht; rcases ht with rfl | rfl | rfl <;> exact ⟨by kernel_rfl, of_decide_eq_true (by kernel_rfl)⟩) hb⟩
theorem over : Rows.belowFrontRow.holds Tryd.pinned (OpenSpec.ofChange Rows.belowFrontSpec) :=
  OpenClaim.holds_of_wide 6 Tryd.f6 rfl rfl rfl rfl rfl rfl rfl ⟨rfl, rfl, rfl, rfl, rfl⟩ rfl rfl rfl rfl rfl (by kernel_rfl) Tryd.func6 (by kernel_rfl)
    (of_decide_eq_true (by kernel_rfl)) (by unfold Func.isWrapper; first | (rw [if_pos (by decide +kernel)]; kernel_rfl) | (rw [if_neg (by decide +kernel)]; exact ⟨rfl, rfl⟩))
    (fun os started H enc _ => lifted os started H enc)
/-- the statement -/
theorem proved : Rows.BelowFrontCardSaid :=
  Claim7.holds_tied_plain_at .later [] _ _ _ _ over (fun _ h => by cases h) (by kernel_rfl) (fun _ h => by cases h) belowFront_row_tie rfl ⟨rfl, rfl⟩ (by kernel_rfl) rfl
    (fun f fn hf hfn => by
      obtain rfl : f = 6 := Option.some.inj ((show Tryd.prog.funcNamed "tombola/tombolalaw09.BelowFront" = some 6 by kernel_rfl).symm.trans hf) |>.symm
      obtain rfl : fn = Tryd.f6 := (Option.some.inj (Tryd.func6.symm.trans hfn)).symm
      exact ⟨by kernel_rfl, (fun j t ht => by
        rw [Tryd.params6] at ht
        have hm : t ∈ [9, 9, 31, 51] := by simpa using Array.mem_of_getElem? ht
        have hall : ([9, 9, 31, 51].all fun u => !Tryd.prog.wantsStandIn u) = true := by kernel_rfl
        exact (show Tryd.prog.wantsStandIn t = false by simpa using List.all_eq_true.1 hall t hm))⟩)
    (by kernel_rfl)
#print axioms proved
end Go.Proofs.YtfmhghemlcbapaaDoor.belowFront
