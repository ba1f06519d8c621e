/-
  PROVED: the statement BitsOrder (tombolalaw07.BitsOrder) about the landed commit: for every input the law returns true and leaves its arguments as they were. Conditions: none beyond those that the given row itself prints.
-/
import Derived.Test.YtcpkkceoobioiaaDoorCards
import Derived.Test.YtcpkkceoobioiaaDoorTie
import Derived.LaidMore
import Derived.Lay
import Derived.SevenTiedAt
import Derived.Stop.Joined
import Derived.Test.YtcpkkceoobioiaaDoorRows
import Derived.WalkKit
import Derived.ProofKit
import Derived.OpenShut
import Derived.RowKit3
import Derived.Test.YtcpkkceoobioiaaDoorGFrame
import Derived.Test.YtcpkkceoobioiaaDoorBitAwake
namespace Go.Proofs.YtcpkkceoobioiaaDoor.bitsOrder
open Go.ChangeShapes Go.WideShapes Go.ChangeAt Go.RowKit
set_option linter.unusedVariables false
set_option linter.unusedSimpArgs false
set_option maxRecDepth 20000
open N
theorem own : ownKnob Tryd.prog.godebug = none := by kernel_rfl
open Lib
set_option maxRecDepth 100000 in
set_option maxHeartbeats 4000000 in
theorem walk (w : World) (b0 : List UInt8) (l0 : b0.length ≤ maxLen) (b1 : List UInt8) (l1 : b1.length ≤ maxLen) (b2 : List UInt8) (l2 : b2.length ≤ maxLen) :
    Calls Tryd.prog 7 #[.string ⟨b0.toArray⟩, .string ⟨b1.toArray⟩, .string ⟨b2.toArray⟩] w fun e w' => e = .returned (.bool true) ∧ Below w.heap.size w w' := by
  have lm0 := l0
  unfold maxLen at lm0
  have lm1 := l1
  unfold maxLen at lm1
  have lm2 := l2
  unfold maxLen at lm2
  have HB := Lib.hid (Below.refl w.heap.size w)
  by_cases hl : b0.length ≤ 3000 ∧ b1.length ≤ 3000 ∧ b2.length ≤ 3000
  · obtain ⟨hl0, hl1, hl2⟩ := hl
    obtain ⟨ac, hac⟩ : ∃ x, b0 ++ b2 = x := ⟨_, rfl⟩
    have nac : ac.length = b0.length + b2.length := by rw [← hac, List.length_append]
    have pac : (⟨b0.toArray⟩ : ByteArray) ++ ⟨b2.toArray⟩ = ⟨ac.toArray⟩ := by rw [← hac]; exact ByteArray.mk_append_mk b0 b2
    have mac : ac.length ≤ maxLen := by unfold maxLen; omega
    obtain ⟨bc, hbc⟩ : ∃ x, b1 ++ b2 = x := ⟨_, rfl⟩
    have nbc : bc.length = b1.length + b2.length := by rw [← hbc, List.length_append]
    have pbc : (⟨b1.toArray⟩ : ByteArray) ++ ⟨b2.toArray⟩ = ⟨bc.toArray⟩ := by rw [← hbc]; exact ByteArray.mk_append_mk b1 b2
    have mbc : bc.length ≤ maxLen := by unfold maxLen; omega
    obtain ⟨ca, hca⟩ : ∃ x, b2 ++ b0 = x := ⟨_, rfl⟩
    have nca : ca.length = b2.length + b0.length := by rw [← hca, List.length_append]
    have pca : (⟨b2.toArray⟩ : ByteArray) ++ ⟨b0.toArray⟩ = ⟨ca.toArray⟩ := by rw [← hca]; exact ByteArray.mk_append_mk b2 b0
    have mca : ca.length ≤ maxLen := by unfold maxLen; omega
    obtain ⟨cb, hcb⟩ : ∃ x, b2 ++ b1 = x := ⟨_, rfl⟩
    have ncb : cb.length = b2.length + b1.length := by rw [← hcb, List.length_append]
    have pcb : (⟨b2.toArray⟩ : ByteArray) ++ ⟨b1.toArray⟩ = ⟨cb.toArray⟩ := by rw [← hcb]; exact ByteArray.mk_append_mk b2 b1
    have mcb : cb.length ≤ maxLen := by unfold maxLen; omega
    have e2 := cmpB_swap b0 b1
    have e3 : cmpB ca cb = cmpB b0 b1 := by rw [← hca, ← hcb, cmpB_left]
    have hxr := cmpB_range b0 b1
    have hyr := cmpB_range b1 b2
    have hzr := @cmpB_trans b0 b1 b2
    have hx0 := @cmpB_eq b0 b1
    have H6 := Lib.hid (fun (e : b0.length = b1.length) => show cmpB ac bc = cmpB b0 b1 by rw [← hac, ← hbc, cmpB_right e])
    clear hac hbc hca hcb
    by_cases hlen : b0.length = b1.length
    · have hq : (((b0.length : Nat) : Int) == ((b1.length : Nat) : Int)) = true := by simp [hlen]
      have e6 := H6.out hlen
      rcases hxr with hx | hx | hx
      · rw [hx] at e2 e3 e6 hzr
        have hne : b0 ≠ b1 := fun e => by have := hx0.2 e; omega
        have hbe : (b0 == b1) = false := by simpa using hne
        clear hx0
        rcases hyr with hy | hy | hy
        · rw [hy] at hzr
          have hz0 := hzr (by decide) (by decide)
          clear hzr
          go_enter Tryd.func7, Tryd.ntmps7
          go_wp2_with (first
            | (go_at_call 13; refine (bawake _).mono ?_; rintro e w1 ⟨rfl, hb⟩; have HB2 := Lib.hid (HB.out.trans (hb.mono HB.out.size)); clear hb HB; have HB := HB2; clear HB2)
            | (go_at_call 20; refine (cmp_any _ _ _ (by assumption) (by assumption)).mono ?_; rintro e w1 ⟨rfl, rfl⟩))
          go_ret
          first
            | exact ⟨rfl, HB.out⟩
            | (refine ⟨?_, HB.out⟩; simp)
        · rw [hy] at hzr
          have hz0 := hzr (by decide) (by decide)
          clear hzr
          go_enter Tryd.func7, Tryd.ntmps7
          go_wp2_with (first
            | (go_at_call 13; refine (bawake _).mono ?_; rintro e w1 ⟨rfl, hb⟩; have HB2 := Lib.hid (HB.out.trans (hb.mono HB.out.size)); clear hb HB; have HB := HB2; clear HB2)
            | (go_at_call 20; refine (cmp_any _ _ _ (by assumption) (by assumption)).mono ?_; rintro e w1 ⟨rfl, rfl⟩))
          go_ret
          first
            | exact ⟨rfl, HB.out⟩
            | (refine ⟨?_, HB.out⟩; simp)
        · clear hzr
          go_enter Tryd.func7, Tryd.ntmps7
          go_wp2_with (first
            | (go_at_call 13; refine (bawake _).mono ?_; rintro e w1 ⟨rfl, hb⟩; have HB2 := Lib.hid (HB.out.trans (hb.mono HB.out.size)); clear hb HB; have HB := HB2; clear HB2)
            | (go_at_call 20; refine (cmp_any _ _ _ (by assumption) (by assumption)).mono ?_; rintro e w1 ⟨rfl, rfl⟩))
          go_ret
          first
            | exact ⟨rfl, HB.out⟩
            | (refine ⟨?_, HB.out⟩; simp)
      · rw [hx] at e2 e3 e6 hzr
        have hbe : (b0 == b1) = true := by rw [hx0.1 hx]; exact beq_self_eq_true b1
        clear hx0
        rcases hyr with hy | hy | hy
        · rw [hy] at hzr
          have hz0 := hzr (by decide) (by decide)
          clear hzr
          go_enter Tryd.func7, Tryd.ntmps7
          go_wp2_with (first
            | (go_at_call 13; refine (bawake _).mono ?_; rintro e w1 ⟨rfl, hb⟩; have HB2 := Lib.hid (HB.out.trans (hb.mono HB.out.size)); clear hb HB; have HB := HB2; clear HB2)
            | (go_at_call 20; refine (cmp_any _ _ _ (by assumption) (by assumption)).mono ?_; rintro e w1 ⟨rfl, rfl⟩))
          go_ret
          first
            | exact ⟨rfl, HB.out⟩
            | (refine ⟨?_, HB.out⟩; simp)
        · rw [hy] at hzr
          have hz0 := hzr (by decide) (by decide)
          clear hzr
          go_enter Tryd.func7, Tryd.ntmps7
          go_wp2_with (first
            | (go_at_call 13; refine (bawake _).mono ?_; rintro e w1 ⟨rfl, hb⟩; have HB2 := Lib.hid (HB.out.trans (hb.mono HB.out.size)); clear hb HB; have HB := HB2; clear HB2)
            | (go_at_call 20; refine (cmp_any _ _ _ (by assumption) (by assumption)).mono ?_; rintro e w1 ⟨rfl, rfl⟩))
          go_ret
          first
            | exact ⟨rfl, HB.out⟩
            | (refine ⟨?_, HB.out⟩; simp)
        · clear hzr
          go_enter Tryd.func7, Tryd.ntmps7
          go_wp2_with (first
            | (go_at_call 13; refine (bawake _).mono ?_; rintro e w1 ⟨rfl, hb⟩; have HB2 := Lib.hid (HB.out.trans (hb.mono HB.out.size)); clear hb HB; have HB := HB2; clear HB2)
            | (go_at_call 20; refine (cmp_any _ _ _ (by assumption) (by assumption)).mono ?_; rintro e w1 ⟨rfl, rfl⟩))
          go_ret
          first
            | exact ⟨rfl, HB.out⟩
            | (refine ⟨?_, HB.out⟩; simp)
      · rw [hx] at e2 e3 e6 hzr
        have hne : b0 ≠ b1 := fun e => by have := hx0.2 e; omega
        have hbe : (b0 == b1) = false := by simpa using hne
        clear hx0
        clear hzr
        go_enter Tryd.func7, Tryd.ntmps7
        go_wp2_with (first
          | (go_at_call 13; refine (bawake _).mono ?_; rintro e w1 ⟨rfl, hb⟩; have HB2 := Lib.hid (HB.out.trans (hb.mono HB.out.size)); clear hb HB; have HB := HB2; clear HB2)
          | (go_at_call 20; refine (cmp_any _ _ _ (by assumption) (by assumption)).mono ?_; rintro e w1 ⟨rfl, rfl⟩))
        go_ret
        first
          | exact ⟨rfl, HB.out⟩
          | (refine ⟨?_, HB.out⟩; simp)
    · have hq : (((b0.length : Nat) : Int) == ((b1.length : Nat) : Int)) = false := by simp; omega
      rcases hxr with hx | hx | hx
      · rw [hx] at e2 e3 hzr
        have hne : b0 ≠ b1 := fun e => by have := hx0.2 e; omega
        have hbe : (b0 == b1) = false := by simpa using hne
        clear hx0
        rcases hyr with hy | hy | hy
        · rw [hy] at hzr
          have hz0 := hzr (by decide) (by decide)
          clear hzr
          go_enter Tryd.func7, Tryd.ntmps7
          go_wp2_with (first
            | (go_at_call 13; refine (bawake _).mono ?_; rintro e w1 ⟨rfl, hb⟩; have HB2 := Lib.hid (HB.out.trans (hb.mono HB.out.size)); clear hb HB; have HB := HB2; clear HB2)
            | (go_at_call 20; refine (cmp_any _ _ _ (by assumption) (by assumption)).mono ?_; rintro e w1 ⟨rfl, rfl⟩))
          go_ret
          first
            | exact ⟨rfl, HB.out⟩
            | (refine ⟨?_, HB.out⟩; simp)
        · rw [hy] at hzr
          have hz0 := hzr (by decide) (by decide)
          clear hzr
          go_enter Tryd.func7, Tryd.ntmps7
          go_wp2_with (first
            | (go_at_call 13; refine (bawake _).mono ?_; rintro e w1 ⟨rfl, hb⟩; have HB2 := Lib.hid (HB.out.trans (hb.mono HB.out.size)); clear hb HB; have HB := HB2; clear HB2)
            | (go_at_call 20; refine (cmp_any _ _ _ (by assumption) (by assumption)).mono ?_; rintro e w1 ⟨rfl, rfl⟩))
          go_ret
          first
            | exact ⟨rfl, HB.out⟩
            | (refine ⟨?_, HB.out⟩; simp)
        · clear hzr
          go_enter Tryd.func7, Tryd.ntmps7
          go_wp2_with (first
            | (go_at_call 13; refine (bawake _).mono ?_; rintro e w1 ⟨rfl, hb⟩; have HB2 := Lib.hid (HB.out.trans (hb.mono HB.out.size)); clear hb HB; have HB := HB2; clear HB2)
            | (go_at_call 20; refine (cmp_any _ _ _ (by assumption) (by assumption)).mono ?_; rintro e w1 ⟨rfl, rfl⟩))
          go_ret
          first
            | exact ⟨rfl, HB.out⟩
            | (refine ⟨?_, HB.out⟩; simp)
      · exact absurd (congrArg List.length (hx0.1 hx)) hlen
      · rw [hx] at e2 e3 hzr
        have hne : b0 ≠ b1 := fun e => by have := hx0.2 e; omega
        have hbe : (b0 == b1) = false := by simpa using hne
        clear hx0
        clear hzr
        go_enter Tryd.func7, Tryd.ntmps7
        go_wp2_with (first
          | (go_at_call 13; refine (bawake _).mono ?_; rintro e w1 ⟨rfl, hb⟩; have HB2 := Lib.hid (HB.out.trans (hb.mono HB.out.size)); clear hb HB; have HB := HB2; clear HB2)
          | (go_at_call 20; refine (cmp_any _ _ _ (by assumption) (by assumption)).mono ?_; rintro e w1 ⟨rfl, rfl⟩))
        go_ret
        first
          | exact ⟨rfl, HB.out⟩
          | (refine ⟨?_, HB.out⟩; simp)
  · have hl' : (3000 < b0.length) ∨ (b0.length ≤ 3000 ∧ 3000 < b1.length) ∨ (b0.length ≤ 3000 ∧ b1.length ≤ 3000 ∧ 3000 < b2.length) := by omega
    clear hl
    rcases hl' with g0 | ⟨g0, g1⟩ | ⟨g0, g1, g2⟩
    · go_enter Tryd.func7, Tryd.ntmps7
      go_wp2_with (first
        | (go_at_call 13; refine (bawake _).mono ?_; rintro e w1 ⟨rfl, hb⟩; have HB2 := Lib.hid (HB.out.trans (hb.mono HB.out.size)); clear hb HB; have HB := HB2; clear HB2))
      go_ret
      first
        | exact ⟨rfl, HB.out⟩
        | (refine ⟨?_, HB.out⟩; simp)
    · go_enter Tryd.func7, Tryd.ntmps7
      go_wp2_with (first
        | (go_at_call 13; refine (bawake _).mono ?_; rintro e w1 ⟨rfl, hb⟩; have HB2 := Lib.hid (HB.out.trans (hb.mono HB.out.size)); clear hb HB; have HB := HB2; clear HB2))
      go_ret
      first
        | exact ⟨rfl, HB.out⟩
        | (refine ⟨?_, HB.out⟩; simp)
    · go_enter Tryd.func7, Tryd.ntmps7
      go_wp2_with (first
        | (go_at_call 13; refine (bawake _).mono ?_; rintro e w1 ⟨rfl, hb⟩; have HB2 := Lib.hid (HB.out.trans (hb.mono HB.out.size)); clear hb HB; have HB := HB2; clear HB2))
      go_ret
      first
        | exact ⟨rfl, HB.out⟩
        | (refine ⟨?_, HB.out⟩; simp)
set_option maxRecDepth 100000 in
theorem lifted (os : Os) (started : os.Started) (H : Type) (enc : TypeId × Value → H) :
    ReturnsInHanded {} Tryd.checked os 7 .any (fun w args => (Rows.bitsOrderSpec.pre enc Tryd.prog Tryd.f7 Rows.bitsOrderRow.domain false w args ∧ laidMetH Tryd.prog Rows.bitsOrderRow.laid w) ∧ sizedMet enc Tryd.prog Tryd.f7 (OpenSpec.ofChange Rows.bitsOrderSpec) false w args) (Rows.bitsOrderSpec.post enc Tryd.prog Tryd.f7 false true false false) := by
  refine returnsInHanded_of_change_and (C := Tryd.checked) (X := fun w _ => laidMetH Tryd.prog Rows.bitsOrderRow.laid w) (fun _ _ _ hh h => h.of_heap hh) own started (by kernel_rfl) Tryd.func7
    (ChangeSpec.witness_shaped (enc := enc) (C := Tryd.checked) (os := os) (X := fun w _ => laidMetH Tryd.prog Rows.bitsOrderRow.laid w) false (World.laidAll Tryd.prog os Rows.bitsOrderRow.laid) #[.string ByteArray.empty, .string ByteArray.empty, .string ByteArray.empty] 8 (World.laidAll_os _ _ _)
      (World.shaped_of_ZipB (by kernel_rfl) (by kernel_rfl)) (by kernel_rfl) (by kernel_rfl) (by kernel_rfl)
      (by rw [MakeChecks.laidMetH_plain _ _ _ (by kernel_rfl)]; exact laidMet_laidAll _ (by kernel_rfl) (by kernel_rfl))) ?_
  intro W base args ds gs before hval0 hW hcnd _ _ _
  have hval : ∀ (j : Nat) t v, Tryd.f7.params[j]? = some t → args[j]? = some v → Value.okWide Tryd.prog W .any base t v := hval0
  have hW' := hW
  obtain ⟨p, q, hA0, hV, hpq, hfz, hnd⟩ := hW
  have hA : DataW.TrodAll enc Tryd.prog W 0 (fun _ => true) true Tryd.f7.params.toList args.toList ds p := hA0
  rw [Tryd.params7] at hA hval
  obtain ⟨v0, vs0, d0, ds0, p0, q0, hargs, rfl, rfl, h0, r0⟩ := trodAll_cons hA
  obtain ⟨v1, vs1, d1, ds1, p1, q1, rfl, rfl, rfl, h1, r1⟩ := trodAll_cons r0
  obtain ⟨v2, vs2, d2, ds2, p2, q2, rfl, rfl, rfl, h2, r2⟩ := trodAll_cons r1
  obtain ⟨rfl, rfl, rfl⟩ := trodAll_nil r2
  obtain rfl : args = #[v0, v1, v2] := by cases args; simp_all
  obtain ⟨rfl, rfl⟩ := trodVars_none hV
  obtain ⟨y0, rfl, rfl, rfl, l0⟩ := Go.ChangeMaps.open_string Tryd.underlying9 (hval 0 9 v0 rfl rfl) h0
  obtain ⟨b0, rfl⟩ : ∃ b : List UInt8, y0 = ⟨b.toArray⟩ := ⟨y0.data.toList, by cases y0; simp⟩
  obtain ⟨y1, rfl, rfl, rfl, l1⟩ := Go.ChangeMaps.open_string Tryd.underlying9 (hval 1 9 v1 rfl rfl) h1
  obtain ⟨b1, rfl⟩ : ∃ b : List UInt8, y1 = ⟨b.toArray⟩ := ⟨y1.data.toList, by cases y1; simp⟩
  obtain ⟨y2, rfl, rfl, rfl, l2⟩ := Go.ChangeMaps.open_string Tryd.underlying9 (hval 2 9 v2 rfl rfl) h2
  obtain ⟨b2, rfl⟩ : ∃ b : List UInt8, y2 = ⟨b.toArray⟩ := ⟨y2.data.toList, by cases y2; simp⟩
  refine (walk W b0 l0 b1 l1 b2 l2).mono fun e W' ⟨he, hb⟩ => ?_
  subst he
  exact ⟨_, rfl, Frame.close laidOut hW' rfl rfl rfl Tryd.underlying4 (fun t ht => by rw [Tryd.params7] at ht; simp at ht; rcases ht with rfl <;> exact ⟨by kernel_rfl, of_decide_eq_true (by kernel_rfl)⟩) hb⟩
theorem over : Rows.bitsOrderRow.holds Tryd.pinned (OpenSpec.ofChange Rows.bitsOrderSpec) :=
  OpenClaim.holds_of_wide 7 Tryd.f7 rfl rfl rfl rfl rfl rfl rfl ⟨rfl, rfl, rfl, rfl, rfl⟩ rfl rfl rfl rfl rfl (by kernel_rfl) Tryd.func7 (by kernel_rfl)
    (of_decide_eq_true (by kernel_rfl)) (by unfold Func.isWrapper; first | (rw [if_pos (by decide +kernel)]; kernel_rfl) | (rw [if_neg (by decide +kernel)]; exact ⟨rfl, rfl⟩))
    (fun os started H enc _ => lifted os started H enc)
/-- the statement -/
theorem proved : Rows.BitsOrderCardSaid :=
  Claim7.holds_tied_plain_at .later [] _ _ _ _ over (fun _ h => by cases h) (by kernel_rfl) (fun _ h => by cases h) bitsOrder_row_tie rfl ⟨rfl, rfl⟩ (by kernel_rfl) rfl
    (fun f fn hf hfn => by
      obtain rfl : f = 7 := Option.some.inj ((show Tryd.prog.funcNamed "tombola/tombolalaw07.BitsOrder" = some 7 by kernel_rfl).symm.trans hf) |>.symm
      obtain rfl : fn = Tryd.f7 := (Option.some.inj (Tryd.func7.symm.trans hfn)).symm
      exact ⟨by kernel_rfl, (fun j t ht => by
        rw [Tryd.params7] at ht
        have hm : t ∈ [9, 9, 9] := by simpa using Array.mem_of_getElem? ht
        have hall : ([9, 9, 9].all fun u => !Tryd.prog.wantsStandIn u) = true := by kernel_rfl
        exact (show Tryd.prog.wantsStandIn t = false by simpa using List.all_eq_true.1 hall t hm))⟩)
    (by kernel_rfl)
#print axioms proved
end Go.Proofs.YtcpkkceoobioiaaDoor.bitsOrder
