/-
  PROVED: the statement WordLens (tombolalaw01.WordLens) about the landed commit: for every input the law returns true and leaves its arguments as they were. Conditions: none beyond those that the given row itself prints.
  The frame is the kit's shell (proof-skeleton.mjs) at this function; the walk is ours.
-/
import Derived.Test.YtimddcledipekaaRows
import Derived.WalkKit
import Derived.ProofKit
import Derived.OpenShut
import Derived.RowKit3
import Derived.Test.YtimddcledipekaaWordAwake
import Derived.Test.YtimddcledipekaaWordLawMath
import Derived.Deep.RegionWith
namespace Go.Proofs.Ytimddcledipekaa.wordLens
open Go.ChangeShapes Go.WideShapes Go.ChangeAt Go.RowKit
set_option linter.unusedVariables false      -- a walk need not use every 'w<i>' (that an integer argument fits its kind)

theorem own : ownKnob Try.prog.godebug = none := by kernel_rfl

/-! ### STEP 1: THE WALK: the Go text returns true. 'Grown w w'': the world has at most new blocks (Derived/RowKit3.lean). Part the cases AHEAD of 'go_enter' where a test parts the walk; take each callee by a contract of your own. -/
theorem walk (a0 : Int) (a1 : Int) (w0 : (Lit.int .u64 a0).wf = true) (w1 : (Lit.int .u64 a1).wf = true) (w : World) :
    Calls Try.prog 10 #[.int .u64 a0, .int .u64 a1] w fun e w' => e = .returned (.bool true) ∧ Grown w w' := by
  have ha := wd_of w0
  have hb := wd_of w1
  obtain ⟨n0, n1⟩ := W.len_le ha
  obtain ⟨m0, m1⟩ := W.len_le hb
  obtain ⟨e1, e2⟩ := W.len_shr ha
  have e3 := W.len_zero ha
  by_cases hz : a0 = 0
  · subst hz
    have e4 : W.len 0 = 0 := e3.2 rfl
    have hb0 : 0 ≤ a1 := hb.1
    clear e2 e3
    rw [e4] at e1
    go_enter Try.func10, Try.ntmps10
    go_wp2_with (first | (go_at_call 16; refine (awake_any _).mono ?_; rintro e w' ⟨rfl, k, rfl⟩) | (go_at_call_of 25 (Value.int .u64 a1); refine (len_any _ hb _).mono ?_; rintro e w' ⟨rfl, rfl⟩) | (go_at_call 25; refine (len_any _ ha _).mono ?_; rintro e w' ⟨rfl, rfl⟩) | (go_at_call 23; refine (shr_yes _ _ _ W.wd_0 ha (by omega) (by omega) _).mono ?_; rintro e w' ⟨rfl, k, rfl⟩))
    all_goals go_ret
    all_goals first | exact ⟨rfl, Grown.refl _⟩ | exact ⟨retb (by simp; omega), Grown.refl _⟩
  · have hp : 0 < W.len a0 := by have : ¬ W.len a0 = 0 := fun h => hz (e3.1 h); omega
    have e4 := e2 hp
    have e5 : (W.len a0 == 0) = false := by rw [beq_eq_false_iff_ne]; omega
    have e6 : (a0 == 0) = false := by rw [beq_eq_false_iff_ne]; exact hz
    clear e2 e3
    by_cases hgt : a1 < a0
    · go_enter Try.func10, Try.ntmps10
      go_wp2_with (first | (go_at_call 16; refine (awake_any _).mono ?_; rintro e w' ⟨rfl, k, rfl⟩) | (go_at_call_of 25 (Value.int .u64 a1); refine (len_any _ hb _).mono ?_; rintro e w' ⟨rfl, rfl⟩) | (go_at_call 25; refine (len_any _ ha _).mono ?_; rintro e w' ⟨rfl, rfl⟩) | (go_at_call 23; refine (shr_yes _ _ _ W.wd_0 ha (by omega) (by omega) _).mono ?_; rintro e w' ⟨rfl, k, rfl⟩))
      all_goals go_ret
      all_goals first | exact ⟨rfl, Grown.refl _⟩ | exact ⟨retb (by simp; omega), Grown.refl _⟩
    · have hm := W.len_mono ha hb (by omega)
      go_enter Try.func10, Try.ntmps10
      go_wp2_with (first | (go_at_call 16; refine (awake_any _).mono ?_; rintro e w' ⟨rfl, k, rfl⟩) | (go_at_call_of 25 (Value.int .u64 a1); refine (len_any _ hb _).mono ?_; rintro e w' ⟨rfl, rfl⟩) | (go_at_call 25; refine (len_any _ ha _).mono ?_; rintro e w' ⟨rfl, rfl⟩) | (go_at_call 23; refine (shr_yes _ _ _ W.wd_0 ha (by omega) (by omega) _).mono ?_; rintro e w' ⟨rfl, k, rfl⟩))
      all_goals go_ret
      all_goals first | exact ⟨rfl, Grown.refl _⟩ | exact ⟨retb (by simp; omega), Grown.refl _⟩

/-! ### THE ROW's STEP: WRITTEN OUT: LEAVE IT -/
set_option maxRecDepth 100000 in
theorem lifted (os : Os) (started : os.Started) (H : Type) (enc : TypeId × Value → H) :
    ReturnsInHanded {} Try.checked os 10 .any (Rows.wordLensSpec.pre6 enc Try.prog Try.f10 Rows.wordLensRow.domain false) (Rows.wordLensSpec.post enc Try.prog Try.f10 false true false false) := by
  refine returnsInHanded_of_change (C := Try.checked) own started (by kernel_rfl) Try.func10
    (ChangeSpec.witness6 (enc := enc) (C := Try.checked) false ⟨#[], #[.int .u64 0, .int .u64 0], []⟩ 8 (by kernel_rfl) (by kernel_rfl) (by kernel_rfl) (by kernel_rfl)) ?_
  intro W base args ds gs before hval0 hW hcnd _
  have hval : ∀ (j : Nat) t v, Try.f10.params[j]? = some t → args[j]? = some v → Value.okWide Try.prog W .any base t v := hval0
  have hW' := hW
  obtain ⟨p, q, hA0, hV, rfl, hfz, hnd⟩ := hW
  have hA : DataW.TrodAll enc Try.prog W 0 (fun _ => true) true Try.f10.params.toList args.toList ds p := hA0
  rw [Try.params10] at hA hval
  obtain ⟨v0, vs0, d0, ds0, p0, q0, hargs, rfl, rfl, h0, r0⟩ := trodAll_cons hA
  obtain ⟨v1, vs1, d1, ds1, p1, q1, rfl, rfl, rfl, h1, r1⟩ := trodAll_cons r0
  obtain ⟨rfl, rfl, rfl⟩ := trodAll_nil r1
  obtain rfl : args = #[v0, v1] := by cases args; simp_all
  obtain ⟨rfl, rfl⟩ := trodVars_none hV
  obtain ⟨a0, rfl, rfl, rfl, w0⟩ := open_int Try.underlying22 (hval 0 22 v0 rfl rfl) h0
  obtain ⟨a1, rfl, rfl, rfl, w1⟩ := open_int Try.underlying22 (hval 1 22 v1 rfl rfl) h1
  clear hA0 hval0
  simp only [List.append_nil] at hW'
  refine (walk a0 a1 w0 w1 W).mono fun e W' ⟨he, hg⟩ => ?_
  subst he
  exact ⟨_, rfl, post_of_same (pa := []) (pv := []) hW' (fun _ _ _ => (trodAll_cons_mk (shut_bool Try.underlying4 _) trodAll_mk0)) (fun sp _ => (trodAll_cons_mk (shut_int Try.underlying22 w0) (trodAll_cons_mk (shut_int Try.underlying22 w1) trodAll_mk0))) (fun _ _ => rfl) rfl
    (hg.frame _) hg.2.1 (ok_one (by kernel_rfl) rfl (okWide_bool_mk Try.underlying4 _))⟩

theorem over : Rows.wordLensRow.holds Try.pinned (OpenSpec.ofChange Rows.wordLensSpec) :=
  OpenClaim.holds_of_wide 10 Try.f10 rfl rfl rfl rfl rfl rfl rfl ⟨rfl, rfl, rfl, rfl, rfl⟩ rfl rfl rfl rfl rfl (by kernel_rfl) Try.func10 (by kernel_rfl)
    (of_decide_eq_true (by kernel_rfl)) (by unfold Func.isWrapper; first | (rw [if_pos (by decide +kernel)]; kernel_rfl) | (rw [if_neg (by decide +kernel)]; exact ⟨rfl, rfl⟩))
    (fun os started H enc _ => lifted os started H enc)

/-- ████ THE STATEMENT ████ -/
theorem proved : Rows.WordLensSaid :=
  over
#print axioms proved
end Go.Proofs.Ytimddcledipekaa.wordLens
