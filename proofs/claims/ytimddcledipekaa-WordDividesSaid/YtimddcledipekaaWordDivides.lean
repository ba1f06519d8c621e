/-
  PROVED: the statement WordDivides (tombolalaw01.WordDivides) about the landed commit: for every input the law returns true and leaves its arguments as they were. Conditions: none beyond those that the given row itself prints.
  The frame is the kit's shell (proof-skeleton.mjs) at this function; the walk is ours.
-/
import Derived.Test.YtimddcledipekaaRows
import Derived.WalkKit
import Derived.ProofKit
import Derived.OpenShut
import Derived.RowKit3
import Derived.Test.YtimddcledipekaaWordAwake
import Derived.Test.YtimddcledipekaaWordLawMath
import Derived.Deep.RegionWith
namespace Go.Proofs.Ytimddcledipekaa.wordDivides
open Go.ChangeShapes Go.WideShapes Go.ChangeAt Go.RowKit
set_option linter.unusedVariables false      -- a walk need not use every 'w<i>' (that an integer argument fits its kind)

theorem own : ownKnob Try.prog.godebug = none := by kernel_rfl

/-! ### STEP 1: THE WALK: the Go text returns true. 'Grown w w'': the world has at most new blocks (Derived/RowKit3.lean). Part the cases AHEAD of 'go_enter' where a test parts the walk; take each callee by a contract of your own. -/
theorem walk (a0 : Int) (a1 : Int) (a2 : Int) (w0 : (Lit.int .u64 a0).wf = true) (w1 : (Lit.int .u64 a1).wf = true) (w2 : (Lit.int .u64 a2).wf = true) (w : World) :
    Calls Try.prog 9 #[.int .u64 a0, .int .u64 a1, .int .u64 a2] w fun e w' => e = .returned (.bool true) ∧ Grown w w' := by
  have ha := wd_of w0
  have hb := wd_of w1
  have hd := wd_of w2
  by_cases h0 : a2 = 0
  · subst h0
    go_enter Try.func9, Try.ntmps9
    go_wp2_with (first | (go_at_call 16; refine (awake_any _).mono ?_; rintro e w' ⟨rfl, k, rfl⟩) | (go_at_call 19; refine (div_zero _ _ ha hb _).mono ?_; rintro e w' ⟨rfl, rfl⟩))
    go_ret
    exact ⟨rfl, Grown.refl _⟩
  · have hp : 0 < a2 := by have := hd.1; omega
    have hz : (a2 == 0) = false := by rw [beq_eq_false_iff_ne]; exact h0
    clear h0
    obtain ⟨g1, g2, g3, g4⟩ := W.div3 ha hb hd hp
    have hr := W.emod_wd (b := a1) hd hp
    have hwl := W.wd_addS (W.mulL a0 a2) (a1 % a2) 0
    have hwh := W.wd_addS (W.mulH a0 a2) 0 (W.addC (W.mulL a0 a2) (a1 % a2) 0)
    have hb0 : 0 ≤ a1 := hb.1
    by_cases hle : a2 ≤ a0
    · go_enter Try.func9, Try.ntmps9
      go_wp2_with (first | (go_at_call 16; refine (awake_any _).mono ?_; rintro e w' ⟨rfl, k, rfl⟩) | (go_at_call 12; refine (add_any _ _ _ (by first | assumption | exact W.wd_0 | exact W.wd_mulL _ _ | exact W.wd_addS _ _ _ | exact W.wd_mulH (by assumption) (by assumption)) (by first | assumption | exact W.wd_0 | exact W.wd_mulL _ _ | exact W.wd_addS _ _ _ | exact W.wd_mulH (by assumption) (by assumption)) (by first | exact W.wd_0 | exact W.wd_addC (W.wd_mulL _ _) (by assumption) W.wd_0) _).mono ?_; rintro e w' ⟨rfl, rfl⟩) | (go_at_call 17; refine (mul_any _ _ (by assumption) (by assumption) _).mono ?_; rintro e w' ⟨rfl, rfl⟩) | (go_at_call_of 19 (Value.int .u64 a0); refine (div_long _ _ _ ha hb hd hp hle _).mono ?_; rintro e w' ⟨rfl, rfl⟩) | (go_at_call 19; refine (div_any _ _ _ hwh hwl hd g2 _).mono ?_; rintro e w' ⟨rfl, k, rfl⟩))
      go_ret
      exact ⟨rfl, Grown.refl _⟩
    · have hlt : a0 < a2 := by omega
      obtain ⟨f1, f2, f3⟩ := W.div2 ha hb hd hlt
      have q1 := W.wd_divQ ha hb hd hlt
      have q2 := W.wd_divR ha hb hd hlt
      have q3 : W.divR a0 a1 a2 < a2 := (W.div1 ha hb hd hlt).2.2.1
      go_enter Try.func9, Try.ntmps9
      go_wp2_with (first | (go_at_call 16; refine (awake_any _).mono ?_; rintro e w' ⟨rfl, k, rfl⟩) | (go_at_call 12; refine (add_any _ _ _ (by first | assumption | exact W.wd_0 | exact W.wd_mulL _ _ | exact W.wd_addS _ _ _ | exact W.wd_mulH (by assumption) (by assumption)) (by first | assumption | exact W.wd_0 | exact W.wd_mulL _ _ | exact W.wd_addS _ _ _ | exact W.wd_mulH (by assumption) (by assumption)) (by first | exact W.wd_0 | exact W.wd_addC (W.wd_mulL _ _) (by assumption) W.wd_0) _).mono ?_; rintro e w' ⟨rfl, rfl⟩) | (go_at_call 17; refine (mul_any _ _ (by assumption) (by assumption) _).mono ?_; rintro e w' ⟨rfl, rfl⟩) | (go_at_call_of 19 (Value.int .u64 a0); refine (div_any _ _ _ ha hb hd hlt _).mono ?_; rintro e w' ⟨rfl, k, rfl⟩) | (go_at_call 19; refine (div_any _ _ _ hwh hwl hd g2 _).mono ?_; rintro e w' ⟨rfl, k, rfl⟩))
      go_ret
      exact ⟨rfl, Grown.refl _⟩

/-! ### THE ROW's STEP: WRITTEN OUT: LEAVE IT -/
set_option maxRecDepth 100000 in
theorem lifted (os : Os) (started : os.Started) (H : Type) (enc : TypeId × Value → H) :
    ReturnsInHanded {} Try.checked os 9 .any (Rows.wordDividesSpec.pre6 enc Try.prog Try.f9 Rows.wordDividesRow.domain false) (Rows.wordDividesSpec.post enc Try.prog Try.f9 false true false false) := by
  refine returnsInHanded_of_change (C := Try.checked) own started (by kernel_rfl) Try.func9
    (ChangeSpec.witness6 (enc := enc) (C := Try.checked) false ⟨#[], #[.int .u64 0, .int .u64 0, .int .u64 0], []⟩ 8 (by kernel_rfl) (by kernel_rfl) (by kernel_rfl) (by kernel_rfl)) ?_
  intro W base args ds gs before hval0 hW hcnd _
  have hval : ∀ (j : Nat) t v, Try.f9.params[j]? = some t → args[j]? = some v → Value.okWide Try.prog W .any base t v := hval0
  have hW' := hW
  obtain ⟨p, q, hA0, hV, rfl, hfz, hnd⟩ := hW
  have hA : DataW.TrodAll enc Try.prog W 0 (fun _ => true) true Try.f9.params.toList args.toList ds p := hA0
  rw [Try.params9] at hA hval
  obtain ⟨v0, vs0, d0, ds0, p0, q0, hargs, rfl, rfl, h0, r0⟩ := trodAll_cons hA
  obtain ⟨v1, vs1, d1, ds1, p1, q1, rfl, rfl, rfl, h1, r1⟩ := trodAll_cons r0
  obtain ⟨v2, vs2, d2, ds2, p2, q2, rfl, rfl, rfl, h2, r2⟩ := trodAll_cons r1
  obtain ⟨rfl, rfl, rfl⟩ := trodAll_nil r2
  obtain rfl : args = #[v0, v1, v2] := by cases args; simp_all
  obtain ⟨rfl, rfl⟩ := trodVars_none hV
  obtain ⟨a0, rfl, rfl, rfl, w0⟩ := open_int Try.underlying22 (hval 0 22 v0 rfl rfl) h0
  obtain ⟨a1, rfl, rfl, rfl, w1⟩ := open_int Try.underlying22 (hval 1 22 v1 rfl rfl) h1
  obtain ⟨a2, rfl, rfl, rfl, w2⟩ := open_int Try.underlying22 (hval 2 22 v2 rfl rfl) h2
  clear hA0 hval0
  simp only [List.append_nil] at hW'
  refine (walk a0 a1 a2 w0 w1 w2 W).mono fun e W' ⟨he, hg⟩ => ?_
  subst he
  exact ⟨_, rfl, post_of_same (pa := []) (pv := []) hW' (fun _ _ _ => (trodAll_cons_mk (shut_bool Try.underlying4 _) trodAll_mk0)) (fun sp _ => (trodAll_cons_mk (shut_int Try.underlying22 w0) (trodAll_cons_mk (shut_int Try.underlying22 w1) (trodAll_cons_mk (shut_int Try.underlying22 w2) trodAll_mk0)))) (fun _ _ => rfl) rfl
    (hg.frame _) hg.2.1 (ok_one (by kernel_rfl) rfl (okWide_bool_mk Try.underlying4 _))⟩

theorem over : Rows.wordDividesRow.holds Try.pinned (OpenSpec.ofChange Rows.wordDividesSpec) :=
  OpenClaim.holds_of_wide 9 Try.f9 rfl rfl rfl rfl rfl rfl rfl ⟨rfl, rfl, rfl, rfl, rfl⟩ rfl rfl rfl rfl rfl (by kernel_rfl) Try.func9 (by kernel_rfl)
    (of_decide_eq_true (by kernel_rfl)) (by unfold Func.isWrapper; first | (rw [if_pos (by decide +kernel)]; kernel_rfl) | (rw [if_neg (by decide +kernel)]; exact ⟨rfl, rfl⟩))
    (fun os started H enc _ => lifted os started H enc)

/-- ████ THE STATEMENT ████ -/
theorem proved : Rows.WordDividesSaid :=
  over
#print axioms proved
end Go.Proofs.Ytimddcledipekaa.wordDivides
