/-
  PROVED: the statement DecMany (tombolalaw04.DecMany) about the landed commit: for every input the law returns true and leaves its arguments as they were. Conditions: none beyond those that the given row itself prints.
-/
import Derived.Test.YtbadbjmhmadbmaaDoorCards
import Derived.Test.YtbadbjmhmadbmaaDoorTie
import Derived.LaidMore
import Derived.Lay
import Derived.SevenTiedAt
import Derived.Stop.Joined
import Derived.Test.YtbadbjmhmadbmaaDoorRows
import Derived.WalkKit
import Derived.ProofKit
import Derived.OpenShut
import Derived.RowKit3
import Derived.Test.YtbadbjmhmadbmaaDoorLawFrame
import Derived.Test.YtbadbjmhmadbmaaDoorNatOpen
import Derived.Test.YtbadbjmhmadbmaaDoorDecAwake
namespace Go.Proofs.YtbadbjmhmadbmaaDoor.decMany
open Go.ChangeShapes Go.WideShapes Go.ChangeAt Go.RowKit
set_option linter.unusedVariables false
set_option maxRecDepth 20000
open N
theorem own : ownKnob Tryd.prog.godebug = none := by kernel_rfl
open Go.Lib (decDigits nDigits decDigits_length nDigits_pos)
set_option maxRecDepth 100000 in
set_option maxHeartbeats 4000000 in
theorem walk (w : World) (A0 : Option Addr) (n0 c0 : Nat) (xs0 : List Int) (h0 : Sl w A0 n0 c0 xs0) :
    Calls Tryd.prog 9 #[.slice A0 n0 c0] w fun e w' => e = .returned (.bool true) ∧ Below w.heap.size w w' := by
  have hc0 := h0.cap
  have hm0 := h0.max
  unfold maxLen at hm0
  by_cases hl : n0 ≤ 24
  · obtain ⟨va, hva⟩ : ∃ v : Int, val B xs0 = v := ⟨_, rfl⟩
    have pa : 0 ≤ va := by rw [← hva]; exact val_nonneg (by decide) h0.dg
    have hf := nDigits_val h0.dg h0.len (Int.toNat_of_nonneg (val_nonneg (b := B) (by decide) h0.dg)).symm
    rw [hva] at hf
    have hS := Lib.hid ((St.nil_ w).cons h0 hl hva)
    clear hva h0
    have hk1 := nDigits_pos va.toNat
    have hup := Go.Lib.lt_pow_nDigits va.toNat
    have hlo : 0 < va → 10 ^ (nDigits va.toNat - 1) ≤ va.toNat := fun h => pow_le_nDigits (by omega)
    obtain ⟨k, hk⟩ : ∃ k, nDigits va.toNat = k := ⟨_, rfl⟩
    obtain ⟨T, hT⟩ : ∃ T, decDigits va.toNat = T := ⟨_, rfl⟩
    have hTl : T.length = k := by rw [← hT, decDigits_length, hk]
    rw [hk] at hf hk1 hup hlo
    have hup' : va < 10 ^ k := by
      have e : (10 : Int) ^ k = ((10 ^ k : Nat) : Int) := by rw [Int.natCast_pow]; rfl
      rw [e]; omega
    have hlo' : 0 < va → (10 : Int) ^ (k - 1) ≤ va := fun h => by
      have e : (10 : Int) ^ (k - 1) = ((10 ^ (k - 1) : Nat) : Int) := by rw [Int.natCast_pow]; rfl
      have := hlo h
      rw [e]; omega
    have HK := Lib.hid hk
    have HT := Lib.hid hT
    have HC1 := Lib.hid (cmpI_gt hup')
    have hk6 : k ≤ 481 := by omega
    clear hup hlo hup' hk hT hf
    by_cases hv : va = 0
    · have HV := Lib.hid hv
      clear hv pa hlo'
      go_enter Tryd.func9, Tryd.ntmps9
      go_wp2_with fail
      go_at_call 12
      refine (long1_n hS.out _ _ _ (by omega)).mono ?_
      rintro e w' ⟨rfl, h1⟩
      clear hS; have hS := Lib.hid h1; clear h1
      go_wp2_with fail
      go_at_call 13
      refine (dawake_s hS.out).mono ?_
      rintro e w' ⟨rfl, h1⟩
      clear hS; have hS := Lib.hid h1; clear h1
      go_wp2_with fail
      go_at_call 16
      refine (manyd_t hS.out (A := A0) (xs := xs0) (v := va) (by repeat (first | exact List.mem_cons_self | apply List.mem_cons_of_mem)) (by omega) (k : Int) (by rw [HK.out])).mono ?_
      rintro e w' ⟨rfl, h1⟩
      clear hS; have hS := Lib.hid h1; clear h1
      go_wp2_with fail
      go_at_call 14
      refine (show_t hS.out (A := A0) (xs := xs0) (v := va) (by repeat (first | exact List.mem_cons_self | apply List.mem_cons_of_mem)) (by omega) T HT.out).mono ?_
      rintro e w' ⟨rfl, h1⟩
      clear hS; have hS := Lib.hid h1; clear h1
      go_wp2_with fail
      go_at_call 25
      refine (zero_s hS.out (A := A0) (xs := xs0) (v := va) (by repeat (first | exact List.mem_cons_self | apply List.mem_cons_of_mem)) HV.out).mono ?_
      rintro e w' ⟨rfl, h1⟩
      clear hS; have hS := Lib.hid h1; clear h1
      go_wp2_with fail
      go_at_call 23
      refine (power_s hS.out k rfl (by omega)).mono ?_
      rintro e w' ⟨A5, n5, c5, xs5, rfl, h1⟩
      clear hS; have hS := Lib.hid h1; clear h1
      go_wp2_with fail
      go_at_call 28
      refine (cmp_s hS.out (A := A5) (A' := A0) (xs := xs5) (ys := xs0) (v := 10 ^ k) (u := va) (by repeat (first | exact List.mem_cons_self | apply List.mem_cons_of_mem)) (by repeat (first | exact List.mem_cons_self | apply List.mem_cons_of_mem)) (by omega) (by omega)).mono ?_
      rw [HC1.out]
      rintro e w' ⟨rfl, h1⟩
      clear hS; have hS := Lib.hid h1; clear h1
      go_wp2
      go_ret
      exact ⟨rfl, hS.out.1⟩
    · have HV := Lib.hid (show 0 < va by omega)
      have h2 : ∃ q : Int, cmpI (10 ^ (k - 1)) va = q ∧ q ≤ 0 := by
        rcases Int.lt_or_eq_of_le (hlo' (by omega)) with h | h
        · exact ⟨-1, cmpI_lt h, by omega⟩
        · exact ⟨0, cmpI_eq h, by omega⟩
      obtain ⟨q, hq, hq0⟩ := h2
      have HC2 := Lib.hid hq
      clear hv pa hlo' hq
      go_enter Tryd.func9, Tryd.ntmps9
      go_wp2_with fail
      go_at_call 12
      refine (long1_n hS.out _ _ _ (by omega)).mono ?_
      rintro e w' ⟨rfl, h1⟩
      clear hS; have hS := Lib.hid h1; clear h1
      go_wp2_with fail
      go_at_call 13
      refine (dawake_s hS.out).mono ?_
      rintro e w' ⟨rfl, h1⟩
      clear hS; have hS := Lib.hid h1; clear h1
      go_wp2_with fail
      go_at_call 16
      refine (manyd_t hS.out (A := A0) (xs := xs0) (v := va) (by repeat (first | exact List.mem_cons_self | apply List.mem_cons_of_mem)) (by omega) (k : Int) (by rw [HK.out])).mono ?_
      rintro e w' ⟨rfl, h1⟩
      clear hS; have hS := Lib.hid h1; clear h1
      go_wp2_with fail
      go_at_call 14
      refine (show_t hS.out (A := A0) (xs := xs0) (v := va) (by repeat (first | exact List.mem_cons_self | apply List.mem_cons_of_mem)) (by omega) T HT.out).mono ?_
      rintro e w' ⟨rfl, h1⟩
      clear hS; have hS := Lib.hid h1; clear h1
      go_wp2_with fail
      go_at_call 25
      refine (zero_n hS.out (A := A0) (xs := xs0) (v := va) (by repeat (first | exact List.mem_cons_self | apply List.mem_cons_of_mem)) HV.out).mono ?_
      rintro e w' ⟨rfl, h1⟩
      clear hS; have hS := Lib.hid h1; clear h1
      go_wp2_with fail
      go_at_call 23
      refine (power_s hS.out (k - 1) (by omega) (by omega)).mono ?_
      rintro e w' ⟨A6, n6, c6, xs6, rfl, h1⟩
      clear hS; have hS := Lib.hid h1; clear h1
      go_wp2_with fail
      go_at_call 28
      refine (cmp_s hS.out (A := A6) (A' := A0) (xs := xs6) (ys := xs0) (v := 10 ^ (k - 1)) (u := va) (by repeat (first | exact List.mem_cons_self | apply List.mem_cons_of_mem)) (by repeat (first | exact List.mem_cons_self | apply List.mem_cons_of_mem)) (by omega) (by omega)).mono ?_
      rw [HC2.out]
      rintro e w' ⟨rfl, h1⟩
      clear hS; have hS := Lib.hid h1; clear h1
      go_wp2_with fail
      go_at_call 23
      refine (power_s hS.out k rfl (by omega)).mono ?_
      rintro e w' ⟨A5, n5, c5, xs5, rfl, h1⟩
      clear hS; have hS := Lib.hid h1; clear h1
      go_wp2_with fail
      go_at_call 28
      refine (cmp_s hS.out (A := A5) (A' := A0) (xs := xs5) (ys := xs0) (v := 10 ^ k) (u := va) (by repeat (first | exact List.mem_cons_self | apply List.mem_cons_of_mem)) (by repeat (first | exact List.mem_cons_self | apply List.mem_cons_of_mem)) (by omega) (by omega)).mono ?_
      rw [HC1.out]
      rintro e w' ⟨rfl, h1⟩
      clear hS; have hS := Lib.hid h1; clear h1
      go_wp2
      go_ret
      exact ⟨rfl, hS.out.1⟩
  · have hS := Lib.hid (St.nil_ w)
    clear h0
    go_enter Tryd.func9, Tryd.ntmps9
    go_wp2_with fail
    go_at_call 12
    refine (long1_y hS.out _ _ _ (by omega) hl).mono ?_
    rintro e w' ⟨rfl, h1⟩
    clear hS; have hS := Lib.hid h1; clear h1
    go_wp2_with fail
    go_at_call 13
    refine (dawake_s hS.out).mono ?_
    rintro e w' ⟨rfl, h1⟩
    clear hS; have hS := Lib.hid h1; clear h1
    go_wp2
    go_ret
    exact ⟨rfl, hS.out.1⟩
set_option maxRecDepth 100000 in
theorem lifted (os : Os) (started : os.Started) (H : Type) (enc : TypeId × Value → H) :
    ReturnsInHanded {} Tryd.checked os 9 .any (fun w args => (Rows.decManySpec.pre enc Tryd.prog Tryd.f9 Rows.decManyRow.domain false w args ∧ laidMetH Tryd.prog Rows.decManyRow.laid w) ∧ sizedMet enc Tryd.prog Tryd.f9 (OpenSpec.ofChange Rows.decManySpec) false w args) (Rows.decManySpec.post enc Tryd.prog Tryd.f9 false true false false) := by
  refine returnsInHanded_of_change_and (C := Tryd.checked) (X := fun w _ => laidMetH Tryd.prog Rows.decManyRow.laid w) (fun _ _ _ hh h => h.of_heap hh) own started (by kernel_rfl) Tryd.func9
    (ChangeSpec.witness_shaped (enc := enc) (C := Tryd.checked) (os := os) (X := fun w _ => laidMetH Tryd.prog Rows.decManyRow.laid w) false (World.laidAll Tryd.prog os Rows.decManyRow.laid) #[.slice none 0 0] 8 (World.laidAll_os _ _ _)
      (World.shaped_of_ZipB (by kernel_rfl) (by kernel_rfl)) (by kernel_rfl) (by kernel_rfl) (by kernel_rfl)
      (by rw [MakeChecks.laidMetH_plain _ _ _ (by kernel_rfl)]; exact laidMet_laidAll _ (by kernel_rfl) (by kernel_rfl))) ?_
  intro W base args ds gs before hval0 hW hcnd _ _ _
  have hval : ∀ (j : Nat) t v, Tryd.f9.params[j]? = some t → args[j]? = some v → Value.okWide Tryd.prog W .any base t v := hval0
  have hW' := hW
  obtain ⟨p, q, hA0, hV, hpq, hfz, hnd⟩ := hW
  have hA : DataW.TrodAll enc Tryd.prog W 0 (fun _ => true) true Tryd.f9.params.toList args.toList ds p := hA0
  rw [Tryd.params9] at hA hval
  obtain ⟨v0, vs0, d0, ds0, p0, q0, hargs, rfl, rfl, h0, r0⟩ := trodAll_cons hA
  obtain ⟨rfl, rfl, rfl⟩ := trodAll_nil r0
  obtain rfl : args = #[v0] := by cases args; simp_all
  obtain ⟨rfl, rfl⟩ := trodVars_none hV
  obtain ⟨A0, n0, c0, xs0, rfl, s0⟩ := open_natural (hval 0 23 v0 rfl rfl) h0
  refine (walk W A0 n0 c0 xs0 s0).mono fun e W' ⟨he, hb⟩ => ?_
  subst he
  exact ⟨_, rfl, Frame.close laidOut hW' rfl rfl rfl Tryd.underlying4 (fun t ht => by rw [Tryd.params9] at ht; simp at ht; rcases ht with rfl <;> exact ⟨by kernel_rfl, of_decide_eq_true (by kernel_rfl)⟩) hb⟩
theorem over : Rows.decManyRow.holds Tryd.pinned (OpenSpec.ofChange Rows.decManySpec) :=
  OpenClaim.holds_of_wide 9 Tryd.f9 rfl rfl rfl rfl rfl rfl rfl ⟨rfl, rfl, rfl, rfl, rfl⟩ rfl rfl rfl rfl rfl (by kernel_rfl) Tryd.func9 (by kernel_rfl)
    (of_decide_eq_true (by kernel_rfl)) (by unfold Func.isWrapper; first | (rw [if_pos (by decide +kernel)]; kernel_rfl) | (rw [if_neg (by decide +kernel)]; exact ⟨rfl, rfl⟩))
    (fun os started H enc _ => lifted os started H enc)
/-- the statement -/
theorem proved : Rows.DecManyCardSaid :=
  Claim7.holds_tied_plain_at .later [] _ _ _ _ over (fun _ h => by cases h) (by kernel_rfl) (fun _ h => by cases h) decMany_row_tie rfl ⟨rfl, rfl⟩ (by kernel_rfl) rfl
    (fun f fn hf hfn => by
      obtain rfl : f = 9 := Option.some.inj ((show Tryd.prog.funcNamed "tombola/tombolalaw04.DecMany" = some 9 by kernel_rfl).symm.trans hf) |>.symm
      obtain rfl : fn = Tryd.f9 := (Option.some.inj (Tryd.func9.symm.trans hfn)).symm
      exact ⟨by kernel_rfl, (fun j t ht => by
        rw [Tryd.params9] at ht
        have hm : t ∈ [23] := by simpa using Array.mem_of_getElem? ht
        have hall : ([23].all fun u => !Tryd.prog.wantsStandIn u) = true := by kernel_rfl
        exact (show Tryd.prog.wantsStandIn t = false by simpa using List.all_eq_true.1 hall t hm))⟩)
    (by kernel_rfl)
#print axioms proved
end Go.Proofs.YtbadbjmhmadbmaaDoor.decMany
