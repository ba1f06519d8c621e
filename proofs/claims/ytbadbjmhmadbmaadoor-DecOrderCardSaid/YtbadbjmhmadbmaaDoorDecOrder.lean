/-
  PROVED: the statement DecOrder (tombolalaw04.DecOrder) about the landed commit: for every input the law returns true and leaves its arguments as they were. Conditions: none beyond those that the given row itself prints.
-/
import Derived.Test.YtbadbjmhmadbmaaDoorCards
import Derived.Test.YtbadbjmhmadbmaaDoorTie
import Derived.LaidMore
import Derived.Lay
import Derived.SevenTiedAt
import Derived.Stop.Joined
import Derived.Test.YtbadbjmhmadbmaaDoorRows
import Derived.WalkKit
import Derived.ProofKit
import Derived.OpenShut
import Derived.RowKit3
import Derived.Test.YtbadbjmhmadbmaaDoorLawFrame
import Derived.Test.YtbadbjmhmadbmaaDoorNatOpen
import Derived.Test.YtbadbjmhmadbmaaDoorDecAwake
namespace Go.Proofs.YtbadbjmhmadbmaaDoor.decOrder
open Go.ChangeShapes Go.WideShapes Go.ChangeAt Go.RowKit
set_option linter.unusedVariables false
set_option maxRecDepth 20000
open N
theorem own : ownKnob Tryd.prog.godebug = none := by kernel_rfl
open Go.Lib (decDigits nDigits decDigits_length nDigits_pos)
theorem lt_of_len {u v : Nat} (h : (decDigits u).length < (decDigits v).length) : u < v := by
  rw [decDigits_length, decDigits_length] at h
  exact lt_of_nDigits h
set_option maxRecDepth 100000 in
set_option maxHeartbeats 4000000 in
theorem walk (w : World) (A0 : Option Addr) (n0 c0 : Nat) (xs0 : List Int) (h0 : Sl w A0 n0 c0 xs0) (A1 : Option Addr) (n1 c1 : Nat) (xs1 : List Int) (h1 : Sl w A1 n1 c1 xs1) :
    Calls Tryd.prog 8 #[.slice A0 n0 c0, .slice A1 n1 c1] w fun e w' => e = .returned (.bool true) ∧ Below w.heap.size w w' := by
  have hc0 := h0.cap
  have hm0 := h0.max
  unfold maxLen at hm0
  have hc1 := h1.cap
  have hm1 := h1.max
  unfold maxLen at hm1
  by_cases hl : n0 ≤ 24 ∧ n1 ≤ 24
  · obtain ⟨l0, l1⟩ := hl
    obtain ⟨va, hva⟩ : ∃ v : Int, val B xs0 = v := ⟨_, rfl⟩
    obtain ⟨vb, hvb⟩ : ∃ v : Int, val B xs1 = v := ⟨_, rfl⟩
    have pa : 0 ≤ va := by rw [← hva]; exact val_nonneg (by decide) h0.dg
    have pb : 0 ≤ vb := by rw [← hvb]; exact val_nonneg (by decide) h1.dg
    have hS := Lib.hid (((St.nil_ w).cons h0 l0 hva).cons h1 l1 hvb)
    clear hva hvb h0 h1
    obtain ⟨S, hs⟩ : ∃ S, decDigits va.toNat = S := ⟨_, rfl⟩
    obtain ⟨T, ht⟩ : ∃ T, decDigits vb.toNat = T := ⟨_, rfl⟩
    have HA := Lib.hid hs
    have HB := Lib.hid ht
    rcases Int.lt_trichotomy va vb with h | h | h
    · by_cases hlen : S.length < T.length
      · have hc := cmpI_lt h
        have hl1 : ((S.length : Int) != (T.length : Int)) = true := by rw [bne_iff_ne]; omega
        have HC := Lib.hid hc
        clear hc hs ht pa pb
        go_enter Tryd.func8, Tryd.ntmps8
        go_wp2_with fail
        go_at_call 12
        refine (long2_n hS.out _ _ _ _ _ _ (by omega) (by omega)).mono ?_
        rintro e w' ⟨rfl, h1⟩
        clear hS; have hS := Lib.hid h1; clear h1
        go_wp2_with fail
        go_at_call 13
        refine (dawake_s hS.out).mono ?_
        rintro e w' ⟨rfl, h1⟩
        clear hS; have hS := Lib.hid h1; clear h1
        go_wp2_with fail
        go_at_call 14
        refine (show_t hS.out (A := A0) (xs := xs0) (v := va) (by repeat (first | exact List.mem_cons_self | apply List.mem_cons_of_mem)) (by omega) S HA.out).mono ?_
        rintro e w' ⟨rfl, h1⟩
        clear hS; have hS := Lib.hid h1; clear h1
        go_wp2_with fail
        go_at_call 14
        refine (show_t hS.out (A := A1) (xs := xs1) (v := vb) (by repeat (first | exact List.mem_cons_self | apply List.mem_cons_of_mem)) (by omega) T HB.out).mono ?_
        rintro e w' ⟨rfl, h1⟩
        clear hS; have hS := Lib.hid h1; clear h1
        go_wp2_with fail
        go_at_call 28
        refine (cmp_s hS.out (A := A0) (A' := A1) (xs := xs0) (ys := xs1) (v := va) (u := vb) (by repeat (first | exact List.mem_cons_self | apply List.mem_cons_of_mem)) (by repeat (first | exact List.mem_cons_self | apply List.mem_cons_of_mem)) (by omega) (by omega)).mono ?_
        rw [HC.out]
        rintro e w' ⟨rfl, h1⟩
        clear hS; have hS := Lib.hid h1; clear h1
        go_wp2
        go_ret
        exact ⟨rfl, hS.out.1⟩
      · have hc := cmpI_lt h
        have hll : S.length = T.length := by
          apply Classical.byContradiction; intro hc
          rcases Nat.lt_or_ge S.length T.length with h | h
          · first | exact hlen h | (have := lt_of_len (u := va.toNat) (v := vb.toNat) (by rw [hs, ht]; exact h); omega)
          · first | exact hlen (by omega) | (have := lt_of_len (u := vb.toNat) (v := va.toNat) (by rw [hs, ht]; omega); omega)
        have hne : (S == T) = false := by
          rw [beq_eq_false_iff_ne]; intro e
          have := dd_inj (u := va.toNat) (v := vb.toNat) (by rw [hs, ht, e])
          omega
        have hbl : Go.Op.bytesLess S T = true := by
          rw [← hs, ← ht, less_dd (by rw [hs, ht]; exact hll), decide_eq_true_iff]; omega
        have hl1 : ((S.length : Int) != (T.length : Int)) = false := by rw [hll]; exact bne_self_eq_false _
        have HC := Lib.hid hc
        clear hc hs ht pa pb
        go_enter Tryd.func8, Tryd.ntmps8
        go_wp2_with fail
        go_at_call 12
        refine (long2_n hS.out _ _ _ _ _ _ (by omega) (by omega)).mono ?_
        rintro e w' ⟨rfl, h1⟩
        clear hS; have hS := Lib.hid h1; clear h1
        go_wp2_with fail
        go_at_call 13
        refine (dawake_s hS.out).mono ?_
        rintro e w' ⟨rfl, h1⟩
        clear hS; have hS := Lib.hid h1; clear h1
        go_wp2_with fail
        go_at_call 14
        refine (show_t hS.out (A := A0) (xs := xs0) (v := va) (by repeat (first | exact List.mem_cons_self | apply List.mem_cons_of_mem)) (by omega) S HA.out).mono ?_
        rintro e w' ⟨rfl, h1⟩
        clear hS; have hS := Lib.hid h1; clear h1
        go_wp2_with fail
        go_at_call 14
        refine (show_t hS.out (A := A1) (xs := xs1) (v := vb) (by repeat (first | exact List.mem_cons_self | apply List.mem_cons_of_mem)) (by omega) T HB.out).mono ?_
        rintro e w' ⟨rfl, h1⟩
        clear hS; have hS := Lib.hid h1; clear h1
        go_wp2_with fail
        go_at_call 28
        refine (cmp_s hS.out (A := A0) (A' := A1) (xs := xs0) (ys := xs1) (v := va) (u := vb) (by repeat (first | exact List.mem_cons_self | apply List.mem_cons_of_mem)) (by repeat (first | exact List.mem_cons_self | apply List.mem_cons_of_mem)) (by omega) (by omega)).mono ?_
        rw [HC.out]
        rintro e w' ⟨rfl, h1⟩
        clear hS; have hS := Lib.hid h1; clear h1
        go_wp2
        go_ret
        exact ⟨rfl, hS.out.1⟩
    · subst h
      obtain rfl : S = T := by rw [← hs, ← ht]
      have hc := cmpI_eq (rfl : va = va)
      have hbl : Go.Op.bytesLess S S = false := by
        rw [← hs, less_dd rfl, decide_eq_false_iff_not]; omega
      have HC := Lib.hid hc
      clear hc hs ht pa pb
      go_enter Tryd.func8, Tryd.ntmps8
      go_wp2_with fail
      go_at_call 12
      refine (long2_n hS.out _ _ _ _ _ _ (by omega) (by omega)).mono ?_
      rintro e w' ⟨rfl, h1⟩
      clear hS; have hS := Lib.hid h1; clear h1
      go_wp2_with fail
      go_at_call 13
      refine (dawake_s hS.out).mono ?_
      rintro e w' ⟨rfl, h1⟩
      clear hS; have hS := Lib.hid h1; clear h1
      go_wp2_with fail
      go_at_call 14
      refine (show_t hS.out (A := A0) (xs := xs0) (v := va) (by repeat (first | exact List.mem_cons_self | apply List.mem_cons_of_mem)) (by omega) S HA.out).mono ?_
      rintro e w' ⟨rfl, h1⟩
      clear hS; have hS := Lib.hid h1; clear h1
      go_wp2_with fail
      go_at_call 14
      refine (show_t hS.out (A := A1) (xs := xs1) (v := va) (by repeat (first | exact List.mem_cons_self | apply List.mem_cons_of_mem)) (by omega) S HB.out).mono ?_
      rintro e w' ⟨rfl, h1⟩
      clear hS; have hS := Lib.hid h1; clear h1
      go_wp2_with fail
      go_at_call 28
      refine (cmp_s hS.out (A := A0) (A' := A1) (xs := xs0) (ys := xs1) (v := va) (u := va) (by repeat (first | exact List.mem_cons_self | apply List.mem_cons_of_mem)) (by repeat (first | exact List.mem_cons_self | apply List.mem_cons_of_mem)) (by omega) (by omega)).mono ?_
      rw [HC.out]
      rintro e w' ⟨rfl, h1⟩
      clear hS; have hS := Lib.hid h1; clear h1
      go_wp2
      go_ret
      exact ⟨rfl, hS.out.1⟩
    · by_cases hlen : T.length < S.length
      · have hc := cmpI_gt h
        have hlt2 : ¬ (S.length < T.length) := by omega
        have hl1 : ((S.length : Int) != (T.length : Int)) = true := by rw [bne_iff_ne]; omega
        have HC := Lib.hid hc
        clear hc hs ht pa pb
        go_enter Tryd.func8, Tryd.ntmps8
        go_wp2_with fail
        go_at_call 12
        refine (long2_n hS.out _ _ _ _ _ _ (by omega) (by omega)).mono ?_
        rintro e w' ⟨rfl, h1⟩
        clear hS; have hS := Lib.hid h1; clear h1
        go_wp2_with fail
        go_at_call 13
        refine (dawake_s hS.out).mono ?_
        rintro e w' ⟨rfl, h1⟩
        clear hS; have hS := Lib.hid h1; clear h1
        go_wp2_with fail
        go_at_call 14
        refine (show_t hS.out (A := A0) (xs := xs0) (v := va) (by repeat (first | exact List.mem_cons_self | apply List.mem_cons_of_mem)) (by omega) S HA.out).mono ?_
        rintro e w' ⟨rfl, h1⟩
        clear hS; have hS := Lib.hid h1; clear h1
        go_wp2_with fail
        go_at_call 14
        refine (show_t hS.out (A := A1) (xs := xs1) (v := vb) (by repeat (first | exact List.mem_cons_self | apply List.mem_cons_of_mem)) (by omega) T HB.out).mono ?_
        rintro e w' ⟨rfl, h1⟩
        clear hS; have hS := Lib.hid h1; clear h1
        go_wp2_with fail
        go_at_call 28
        refine (cmp_s hS.out (A := A0) (A' := A1) (xs := xs0) (ys := xs1) (v := va) (u := vb) (by repeat (first | exact List.mem_cons_self | apply List.mem_cons_of_mem)) (by repeat (first | exact List.mem_cons_self | apply List.mem_cons_of_mem)) (by omega) (by omega)).mono ?_
        rw [HC.out]
        rintro e w' ⟨rfl, h1⟩
        clear hS; have hS := Lib.hid h1; clear h1
        go_wp2
        go_ret
        exact ⟨rfl, hS.out.1⟩
      · have hc := cmpI_gt h
        have hll : S.length = T.length := by
          apply Classical.byContradiction; intro hc
          rcases Nat.lt_or_ge S.length T.length with h | h
          · first | exact hlen h | (have := lt_of_len (u := va.toNat) (v := vb.toNat) (by rw [hs, ht]; exact h); omega)
          · first | exact hlen (by omega) | (have := lt_of_len (u := vb.toNat) (v := va.toNat) (by rw [hs, ht]; omega); omega)
        have hne : (S == T) = false := by
          rw [beq_eq_false_iff_ne]; intro e
          have := dd_inj (u := va.toNat) (v := vb.toNat) (by rw [hs, ht, e])
          omega
        have hbl : Go.Op.bytesLess S T = false := by
          rw [← hs, ← ht, less_dd (by rw [hs, ht]; exact hll), decide_eq_false_iff_not]; omega
        have hl1 : ((S.length : Int) != (T.length : Int)) = false := by rw [hll]; exact bne_self_eq_false _
        have HC := Lib.hid hc
        clear hc hs ht pa pb
        go_enter Tryd.func8, Tryd.ntmps8
        go_wp2_with fail
        go_at_call 12
        refine (long2_n hS.out _ _ _ _ _ _ (by omega) (by omega)).mono ?_
        rintro e w' ⟨rfl, h1⟩
        clear hS; have hS := Lib.hid h1; clear h1
        go_wp2_with fail
        go_at_call 13
        refine (dawake_s hS.out).mono ?_
        rintro e w' ⟨rfl, h1⟩
        clear hS; have hS := Lib.hid h1; clear h1
        go_wp2_with fail
        go_at_call 14
        refine (show_t hS.out (A := A0) (xs := xs0) (v := va) (by repeat (first | exact List.mem_cons_self | apply List.mem_cons_of_mem)) (by omega) S HA.out).mono ?_
        rintro e w' ⟨rfl, h1⟩
        clear hS; have hS := Lib.hid h1; clear h1
        go_wp2_with fail
        go_at_call 14
        refine (show_t hS.out (A := A1) (xs := xs1) (v := vb) (by repeat (first | exact List.mem_cons_self | apply List.mem_cons_of_mem)) (by omega) T HB.out).mono ?_
        rintro e w' ⟨rfl, h1⟩
        clear hS; have hS := Lib.hid h1; clear h1
        go_wp2_with fail
        go_at_call 28
        refine (cmp_s hS.out (A := A0) (A' := A1) (xs := xs0) (ys := xs1) (v := va) (u := vb) (by repeat (first | exact List.mem_cons_self | apply List.mem_cons_of_mem)) (by repeat (first | exact List.mem_cons_self | apply List.mem_cons_of_mem)) (by omega) (by omega)).mono ?_
        rw [HC.out]
        rintro e w' ⟨rfl, h1⟩
        clear hS; have hS := Lib.hid h1; clear h1
        go_wp2
        go_ret
        exact ⟨rfl, hS.out.1⟩
  · have hS := Lib.hid (St.nil_ w)
    clear h0 h1
    go_enter Tryd.func8, Tryd.ntmps8
    go_wp2_with fail
    go_at_call 12
    refine (long2_y hS.out _ _ _ _ _ _ (by omega) (by omega) hl).mono ?_
    rintro e w' ⟨rfl, h1⟩
    clear hS; have hS := Lib.hid h1; clear h1
    go_wp2_with fail
    go_at_call 13
    refine (dawake_s hS.out).mono ?_
    rintro e w' ⟨rfl, h1⟩
    clear hS; have hS := Lib.hid h1; clear h1
    go_wp2
    go_ret
    exact ⟨rfl, hS.out.1⟩
set_option maxRecDepth 100000 in
theorem lifted (os : Os) (started : os.Started) (H : Type) (enc : TypeId × Value → H) :
    ReturnsInHanded {} Tryd.checked os 8 .any (fun w args => (Rows.decOrderSpec.pre enc Tryd.prog Tryd.f8 Rows.decOrderRow.domain false w args ∧ laidMetH Tryd.prog Rows.decOrderRow.laid w) ∧ sizedMet enc Tryd.prog Tryd.f8 (OpenSpec.ofChange Rows.decOrderSpec) false w args) (Rows.decOrderSpec.post enc Tryd.prog Tryd.f8 false true false false) := by
  refine returnsInHanded_of_change_and (C := Tryd.checked) (X := fun w _ => laidMetH Tryd.prog Rows.decOrderRow.laid w) (fun _ _ _ hh h => h.of_heap hh) own started (by kernel_rfl) Tryd.func8
    (ChangeSpec.witness_shaped (enc := enc) (C := Tryd.checked) (os := os) (X := fun w _ => laidMetH Tryd.prog Rows.decOrderRow.laid w) false (World.laidAll Tryd.prog os Rows.decOrderRow.laid) #[.slice none 0 0, .slice none 0 0] 8 (World.laidAll_os _ _ _)
      (World.shaped_of_ZipB (by kernel_rfl) (by kernel_rfl)) (by kernel_rfl) (by kernel_rfl) (by kernel_rfl)
      (by rw [MakeChecks.laidMetH_plain _ _ _ (by kernel_rfl)]; exact laidMet_laidAll _ (by kernel_rfl) (by kernel_rfl))) ?_
  intro W base args ds gs before hval0 hW hcnd _ _ _
  have hval : ∀ (j : Nat) t v, Tryd.f8.params[j]? = some t → args[j]? = some v → Value.okWide Tryd.prog W .any base t v := hval0
  have hW' := hW
  obtain ⟨p, q, hA0, hV, hpq, hfz, hnd⟩ := hW
  have hA : DataW.TrodAll enc Tryd.prog W 0 (fun _ => true) true Tryd.f8.params.toList args.toList ds p := hA0
  rw [Tryd.params8] at hA hval
  obtain ⟨v0, vs0, d0, ds0, p0, q0, hargs, rfl, rfl, h0, r0⟩ := trodAll_cons hA
  obtain ⟨v1, vs1, d1, ds1, p1, q1, rfl, rfl, rfl, h1, r1⟩ := trodAll_cons r0
  obtain ⟨rfl, rfl, rfl⟩ := trodAll_nil r1
  obtain rfl : args = #[v0, v1] := by cases args; simp_all
  obtain ⟨rfl, rfl⟩ := trodVars_none hV
  obtain ⟨A0, n0, c0, xs0, rfl, s0⟩ := open_natural (hval 0 23 v0 rfl rfl) h0
  obtain ⟨A1, n1, c1, xs1, rfl, s1⟩ := open_natural (hval 1 23 v1 rfl rfl) h1
  refine (walk W A0 n0 c0 xs0 s0 A1 n1 c1 xs1 s1).mono fun e W' ⟨he, hb⟩ => ?_
  subst he
  exact ⟨_, rfl, Frame.close laidOut hW' rfl rfl rfl Tryd.underlying4 (fun t ht => by rw [Tryd.params8] at ht; simp at ht; rcases ht with rfl <;> exact ⟨by kernel_rfl, of_decide_eq_true (by kernel_rfl)⟩) hb⟩
theorem over : Rows.decOrderRow.holds Tryd.pinned (OpenSpec.ofChange Rows.decOrderSpec) :=
  OpenClaim.holds_of_wide 8 Tryd.f8 rfl rfl rfl rfl rfl rfl rfl ⟨rfl, rfl, rfl, rfl, rfl⟩ rfl rfl rfl rfl rfl (by kernel_rfl) Tryd.func8 (by kernel_rfl)
    (of_decide_eq_true (by kernel_rfl)) (by unfold Func.isWrapper; first | (rw [if_pos (by decide +kernel)]; kernel_rfl) | (rw [if_neg (by decide +kernel)]; exact ⟨rfl, rfl⟩))
    (fun os started H enc _ => lifted os started H enc)
/-- the statement -/
theorem proved : Rows.DecOrderCardSaid :=
  Claim7.holds_tied_plain_at .later [] _ _ _ _ over (fun _ h => by cases h) (by kernel_rfl) (fun _ h => by cases h) decOrder_row_tie rfl ⟨rfl, rfl⟩ (by kernel_rfl) rfl
    (fun f fn hf hfn => by
      obtain rfl : f = 8 := Option.some.inj ((show Tryd.prog.funcNamed "tombola/tombolalaw04.DecOrder" = some 8 by kernel_rfl).symm.trans hf) |>.symm
      obtain rfl : fn = Tryd.f8 := (Option.some.inj (Tryd.func8.symm.trans hfn)).symm
      exact ⟨by kernel_rfl, (fun j t ht => by
        rw [Tryd.params8] at ht
        have hm : t ∈ [23, 23] := by simpa using Array.mem_of_getElem? ht
        have hall : ([23, 23].all fun u => !Tryd.prog.wantsStandIn u) = true := by kernel_rfl
        exact (show Tryd.prog.wantsStandIn t = false by simpa using List.all_eq_true.1 hall t hm))⟩)
    (by kernel_rfl)
#print axioms proved
end Go.Proofs.YtbadbjmhmadbmaaDoor.decOrder
