/-
  PROVED: the statement QuoBack (tombolalaw03.QuoBack) about the landed commit: for every input the law returns true and leaves its arguments as they were. Conditions: none beyond those that the given row itself prints.
-/
import Derived.Test.YtbjhfnkdflnnoaaRows
import Derived.WalkKit
import Derived.ProofKit
import Derived.OpenShut
import Derived.RowKit3
import Derived.Test.YtbjhfnkdflnnoaaLawFrame
import Derived.Test.YtbjhfnkdflnnoaaNatOpen
import Derived.Test.YtbjhfnkdflnnoaaQuoAwake
namespace Go.Proofs.Ytbjhfnkdflnnoaa.quoBack
open Go.ChangeShapes Go.WideShapes Go.ChangeAt Go.RowKit
set_option linter.unusedVariables false
open N
theorem own : ownKnob Try.prog.godebug = none := by kernel_rfl
theorem back_math {vb : Int} (va vc : Int) (h : 0 < vb) : limbs (va / vb * vb + va % vb) = limbs va ∧ limbs ((vc * vb + va % vb) / vb) = limbs vc ∧ limbs ((vc * vb + va % vb) % vb) = limbs (va % vb) := by
  have e1 := Int.emod_nonneg va (show vb ≠ 0 by omega)
  have e2 := Int.emod_lt_of_pos va h
  refine ⟨?_, ?_, ?_⟩ <;> congr 1
  · rw [Int.mul_comm]; exact Int.mul_ediv_add_emod va vb
  · rw [Int.add_comm, Int.add_mul_ediv_right _ _ (by omega), Int.ediv_eq_zero_of_lt e1 e2]; omega
  · rw [Int.add_comm, Int.add_mul_emod_self_right, Int.emod_emod_of_dvd _ (Int.dvd_refl vb)]
set_option maxRecDepth 100000 in
set_option maxHeartbeats 4000000 in
theorem walk (w : World) (A0 : Option Addr) (n0 c0 : Nat) (xs0 : List Int) (h0 : Sl w A0 n0 c0 xs0) (A1 : Option Addr) (n1 c1 : Nat) (xs1 : List Int) (h1 : Sl w A1 n1 c1 xs1) (A2 : Option Addr) (n2 c2 : Nat) (xs2 : List Int) (h2 : Sl w A2 n2 c2 xs2) :
    Calls Try.prog 6 #[.slice A0 n0 c0, .slice A1 n1 c1, .slice A2 n2 c2] w fun e w' => e = .returned (.bool true) ∧ Below w.heap.size w w' := by
  have hc0 := h0.cap
  have hm0 := h0.max
  have hc1 := h1.cap
  have hm1 := h1.max
  have hc2 := h2.cap
  have hm2 := h2.max
  unfold maxLen at hm0 hm1 hm2
  obtain ⟨va, hva⟩ : ∃ v : Int, val B xs0 = v := ⟨_, rfl⟩
  obtain ⟨vb, hvb⟩ : ∃ v : Int, val B xs1 = v := ⟨_, rfl⟩
  obtain ⟨vc, hvc⟩ : ∃ v : Int, val B xs2 = v := ⟨_, rfl⟩
  have pa : 0 ≤ va := by rw [← hva]; exact val_nonneg (by decide) h0.dg
  have pb : 0 ≤ vb := by rw [← hvb]; exact val_nonneg (by decide) h1.dg
  have pc : 0 ≤ vc := by rw [← hvc]; exact val_nonneg (by decide) h2.dg
  by_cases hl : n0 ≤ 12 ∧ n1 ≤ 12 ∧ n2 ≤ 12
  · obtain ⟨l0, l1, l2⟩ := hl
    have hS := Lib.hid ((((St.nil_ w).zero.cons h0 l0 hva).cons h1 l1 hvb).cons h2 l2 hvc)
    clear hva hvb hvc h0 h1 h2
    by_cases hb : vb = 0
    · have HB := Lib.hid hb
      clear hb
      go_enter Try.func6, Try.ntmps6
      go_wp2_with (first
          | (go_at_call 12; (with_reducible refine (qlong3_n hS.out _ _ _ _ _ _ _ _ _ (by omega) (by omega) (by omega)).mono ?_); rintro e w' ⟨rfl, h1⟩; clear hS; have hS := Lib.hid h1; clear h1)
          | (go_at_call 13; (with_reducible refine (qawake_s hS.out ).mono ?_); rintro e w' ⟨rfl, h1⟩; clear hS; have hS := Lib.hid h1; clear h1)
          | (go_at_call 15; (with_reducible refine (div_z hS.out (by repeat (first | exact List.mem_cons_self | apply List.mem_cons_of_mem)) (by repeat (first | exact List.mem_cons_self | apply List.mem_cons_of_mem)) (by omega) (by omega) HB.out).mono ?_); rintro e w' ⟨rfl, h1⟩; clear hS; have hS := Lib.hid h1; clear h1)
          | (go_at_call 23; (with_reducible refine (zero_s hS.out (by repeat (first | exact List.mem_cons_self | apply List.mem_cons_of_mem)) HB.out).mono ?_); rintro e w' ⟨rfl, h1⟩; clear hS; have hS := Lib.hid h1; clear h1))
      go_ret
      exact ⟨rfl, hS.out.1⟩
    · have HB := Lib.hid (show 0 < vb by omega)
      have HC := Lib.hid (cmpI_lt (Int.emod_lt_of_pos va HB.out))
      have HF := Lib.hid (back_math va vc HB.out)
      clear hb pa pb pc
      go_enter Try.func6, Try.ntmps6
      go_wp2_with (first
          | (go_at_call 12; (with_reducible refine (qlong3_n hS.out _ _ _ _ _ _ _ _ _ (by omega) (by omega) (by omega)).mono ?_); rintro e w' ⟨rfl, h1⟩; clear hS; have hS := Lib.hid h1; clear h1)
          | (go_at_call 13; (with_reducible refine (qawake_s hS.out ).mono ?_); rintro e w' ⟨rfl, h1⟩; clear hS; have hS := Lib.hid h1; clear h1)
          | (go_at_call 15; (with_reducible refine (div_s hS.out (by repeat (first | exact List.mem_cons_self | apply List.mem_cons_of_mem)) (by repeat (first | exact List.mem_cons_self | apply List.mem_cons_of_mem)) (by omega) (by omega) HB.out).mono ?_); rintro e w' ⟨B1, m1, d1, C1, n1', e1, rfl, h1⟩; clear hS; have hS := Lib.hid h1; clear h1)
          | (go_at_call 23; (with_reducible refine (zero_n hS.out (by repeat (first | exact List.mem_cons_self | apply List.mem_cons_of_mem)) HB.out).mono ?_); rintro e w' ⟨rfl, h1⟩; clear hS; have hS := Lib.hid h1; clear h1)
          | (go_at_call 24; (with_reducible refine (cmp_s hS.out (by repeat (first | exact List.mem_cons_self | apply List.mem_cons_of_mem)) (by repeat (first | exact List.mem_cons_self | apply List.mem_cons_of_mem)) (by omega) (by omega)).mono ?_); rw [HC.out]; rintro e w' ⟨rfl, h1⟩; clear hS; have hS := Lib.hid h1; clear h1)
          | (go_at_call 25; (with_reducible refine (add_s hS.out (by repeat (first | exact List.mem_cons_self | apply List.mem_cons_of_mem)) (by repeat (first | exact List.mem_cons_self | apply List.mem_cons_of_mem)) (by omega) (by omega)).mono ?_); rintro e w' ⟨B2, m2, d2, rfl, h1⟩; clear hS; have hS := Lib.hid h1; clear h1)
          | (go_at_call 26; (with_reducible refine (mul_s hS.out (by repeat (first | exact List.mem_cons_self | apply List.mem_cons_of_mem)) (by repeat (first | exact List.mem_cons_self | apply List.mem_cons_of_mem)) (by omega) (by omega)).mono ?_); rintro e w' ⟨B3, m3, d3, rfl, h1⟩; clear hS; have hS := Lib.hid h1; clear h1)
          | (go_at_call 27; (with_reducible refine (trim_s hS.out (by repeat (first | exact List.mem_cons_self | apply List.mem_cons_of_mem)) (by omega)).mono ?_); rintro e w' ⟨B4, m4, d4, rfl, h1⟩; clear hS; have hS := Lib.hid h1; clear h1)
          | (go_at_call 16; (with_reducible refine (qsame_s hS.out (by repeat (first | exact List.mem_cons_self | apply List.mem_cons_of_mem)) (by repeat (first | exact List.mem_cons_self | apply List.mem_cons_of_mem)) (by first | rfl | exact HF.out.1 | exact HF.out.2.1 | exact HF.out.2.2)).mono ?_); rintro e w' ⟨rfl, h1⟩; clear hS; have hS := Lib.hid h1; clear h1))
      go_ret
      exact ⟨rfl, hS.out.1⟩
  · have HL := Lib.hid hl
    clear h0 h1 hl hva hvb hvc h2
    have hS := Lib.hid (St.nil_ w)
    go_enter Try.func6, Try.ntmps6
    go_wp2_with (first
        | (go_at_call 12; (with_reducible refine (qlong3_y hS.out _ _ _ _ _ _ _ _ _ (by omega) (by omega) (by omega) HL.out).mono ?_); rintro e w' ⟨rfl, h1⟩; clear hS; have hS := Lib.hid h1; clear h1)
        | (go_at_call 13; (with_reducible refine (qawake_s hS.out ).mono ?_); rintro e w' ⟨rfl, h1⟩; clear hS; have hS := Lib.hid h1; clear h1))
    go_ret
    exact ⟨rfl, hS.out.1⟩
set_option maxRecDepth 100000 in
theorem lifted (os : Os) (started : os.Started) (H : Type) (enc : TypeId × Value → H) :
    ReturnsInHanded {} Try.checked os 6 .any (Rows.quoBackSpec.pre6 enc Try.prog Try.f6 Rows.quoBackRow.domain false) (Rows.quoBackSpec.post enc Try.prog Try.f6 false true false false) := by
  refine returnsInHanded_of_change (C := Try.checked) own started (by kernel_rfl) Try.func6
    (ChangeSpec.witness6 (enc := enc) (C := Try.checked) false ⟨#[], #[.slice none 0 0, .slice none 0 0, .slice none 0 0], []⟩ 8 (by kernel_rfl) (by kernel_rfl) (by kernel_rfl) (by kernel_rfl)) ?_
  intro W base args ds gs before hval0 hW hcnd _
  have hval : ∀ (j : Nat) t v, Try.f6.params[j]? = some t → args[j]? = some v → Value.okWide Try.prog W .any base t v := hval0
  have hW' := hW
  obtain ⟨p, q, hA0, hV, hpq, hfz, hnd⟩ := hW
  have hA : DataW.TrodAll enc Try.prog W 0 (fun _ => true) true Try.f6.params.toList args.toList ds p := hA0
  rw [Try.params6] at hA hval
  obtain ⟨v0, vs0, d0, ds0, p0, q0, hargs, rfl, rfl, h0, r0⟩ := trodAll_cons hA
  obtain ⟨v1, vs1, d1, ds1, p1, q1, rfl, rfl, rfl, h1, r1⟩ := trodAll_cons r0
  obtain ⟨v2, vs2, d2, ds2, p2, q2, rfl, rfl, rfl, h2, r2⟩ := trodAll_cons r1
  obtain ⟨rfl, rfl, rfl⟩ := trodAll_nil r2
  obtain rfl : args = #[v0, v1, v2] := by cases args; simp_all
  obtain ⟨rfl, rfl⟩ := trodVars_none hV
  obtain ⟨A0, n0, c0, xs0, rfl, s0⟩ := open_natural (hval 0 23 v0 rfl rfl) h0
  obtain ⟨A1, n1, c1, xs1, rfl, s1⟩ := open_natural (hval 1 23 v1 rfl rfl) h1
  obtain ⟨A2, n2, c2, xs2, rfl, s2⟩ := open_natural (hval 2 23 v2 rfl rfl) h2
  refine (walk W A0 n0 c0 xs0 s0 A1 n1 c1 xs1 s1 A2 n2 c2 xs2 s2).mono fun e W' ⟨he, hb⟩ => ?_
  subst he
  exact ⟨_, rfl, Frame.close laidOut hW' rfl rfl rfl Try.underlying4 (fun t ht => by rw [Try.params6] at ht; simp at ht; rcases ht with rfl <;> exact ⟨by kernel_rfl, of_decide_eq_true (by kernel_rfl)⟩) hb⟩
theorem over : Rows.quoBackRow.holds Try.pinned (OpenSpec.ofChange Rows.quoBackSpec) :=
  OpenClaim.holds_of_wide 6 Try.f6 rfl rfl rfl rfl rfl rfl rfl ⟨rfl, rfl, rfl, rfl, rfl⟩ rfl rfl rfl rfl rfl (by kernel_rfl) Try.func6 (by kernel_rfl)
    (of_decide_eq_true (by kernel_rfl)) (by unfold Func.isWrapper; first | (rw [if_pos (by decide +kernel)]; kernel_rfl) | (rw [if_neg (by decide +kernel)]; exact ⟨rfl, rfl⟩))
    (fun os started H enc _ => lifted os started H enc)
/-- the statement -/
theorem proved : Rows.QuoBackSaid :=
  over
#print axioms proved
end Go.Proofs.Ytbjhfnkdflnnoaa.quoBack
