/-
  PROVED: the statement QuoDivisors (tombolalaw03.QuoDivisors) about the landed commit: for every input the law returns true and leaves its arguments as they were. Conditions: none beyond those that the given row itself prints.
-/
import Derived.Test.YtbjhfnkdflnnoaaRows
import Derived.WalkKit
import Derived.ProofKit
import Derived.OpenShut
import Derived.RowKit3
import Derived.Test.YtbjhfnkdflnnoaaLawFrame
import Derived.Test.YtbjhfnkdflnnoaaNatOpen
import Derived.Test.YtbjhfnkdflnnoaaQuoAwake
namespace Go.Proofs.Ytbjhfnkdflnnoaa.quoDivisors
open Go.ChangeShapes Go.WideShapes Go.ChangeAt Go.RowKit
set_option linter.unusedVariables false
open N
theorem own : ownKnob Try.prog.godebug = none := by kernel_rfl
theorem gI_comm (a b : Int) : gI a b = gI b a := by unfold gI; rw [Nat.gcd_comm]
theorem gI_mul {a b c : Int} (ha : 0 ≤ a) (hb : 0 ≤ b) (hc : 0 ≤ c) : gI (c * a) (c * b) = c * gI a b := by
  obtain ⟨a, rfl⟩ := Int.eq_ofNat_of_zero_le ha
  obtain ⟨b, rfl⟩ := Int.eq_ofNat_of_zero_le hb
  obtain ⟨c, rfl⟩ := Int.eq_ofNat_of_zero_le hc
  unfold gI
  rw [← Int.natCast_mul, ← Int.natCast_mul, Int.toNat_natCast, Int.toNat_natCast, Int.toNat_natCast, Int.toNat_natCast, Nat.gcd_mul_left, Int.natCast_mul]
theorem gI_pos {a b : Int} (ha : 0 ≤ a) (hb : 0 < b) : 0 < gI a b := by
  obtain ⟨b, rfl⟩ := Int.eq_ofNat_of_zero_le (Int.le_of_lt hb)
  unfold gI
  have := Nat.gcd_pos_of_pos_right a.toNat (show 0 < ((b : Int)).toNat by omega)
  omega
theorem gI_dvd {a b : Int} (ha : 0 ≤ a) (hb : 0 ≤ b) : a % gI a b = 0 ∧ b % gI a b = 0 := by
  obtain ⟨a, rfl⟩ := Int.eq_ofNat_of_zero_le ha
  obtain ⟨b, rfl⟩ := Int.eq_ofNat_of_zero_le hb
  unfold gI
  rw [Int.toNat_natCast, Int.toNat_natCast]
  have h1 := Nat.mod_eq_zero_of_dvd (Nat.gcd_dvd_left a b)
  have h2 := Nat.mod_eq_zero_of_dvd (Nat.gcd_dvd_right a b)
  constructor <;> rw [← Int.natCast_emod] <;> simp [h1, h2]
theorem gI_co {a b : Int} (ha : 0 ≤ a) (hb : 0 < b) : gI (a / gI a b) (b / gI a b) = 1 := by
  have hp := gI_pos ha hb
  obtain ⟨a, rfl⟩ := Int.eq_ofNat_of_zero_le ha
  obtain ⟨b, rfl⟩ := Int.eq_ofNat_of_zero_le (Int.le_of_lt hb)
  unfold gI at hp ⊢
  rw [Int.toNat_natCast, Int.toNat_natCast] at hp ⊢
  rw [← Int.natCast_ediv, ← Int.natCast_ediv, Int.toNat_natCast, Int.toNat_natCast, Nat.gcd_div (Nat.gcd_dvd_left a b) (Nat.gcd_dvd_right a b), Nat.div_self (by omega)]
  rfl
set_option maxRecDepth 100000 in
set_option maxHeartbeats 4000000 in
theorem walk (w : World) (A0 : Option Addr) (n0 c0 : Nat) (xs0 : List Int) (h0 : Sl w A0 n0 c0 xs0) (A1 : Option Addr) (n1 c1 : Nat) (xs1 : List Int) (h1 : Sl w A1 n1 c1 xs1) (A2 : Option Addr) (n2 c2 : Nat) (xs2 : List Int) (h2 : Sl w A2 n2 c2 xs2) :
    Calls Try.prog 8 #[.slice A0 n0 c0, .slice A1 n1 c1, .slice A2 n2 c2] w fun e w' => e = .returned (.bool true) ∧ Below w.heap.size w w' := by
  have hc0 := h0.cap
  have hm0 := h0.max
  have hc1 := h1.cap
  have hm1 := h1.max
  have hc2 := h2.cap
  have hm2 := h2.max
  unfold maxLen at hm0 hm1 hm2
  obtain ⟨va, hva⟩ : ∃ v : Int, val B xs0 = v := ⟨_, rfl⟩
  obtain ⟨vb, hvb⟩ : ∃ v : Int, val B xs1 = v := ⟨_, rfl⟩
  obtain ⟨vc, hvc⟩ : ∃ v : Int, val B xs2 = v := ⟨_, rfl⟩
  have pa : 0 ≤ va := by rw [← hva]; exact val_nonneg (by decide) h0.dg
  have pb : 0 ≤ vb := by rw [← hvb]; exact val_nonneg (by decide) h1.dg
  have pc : 0 ≤ vc := by rw [← hvc]; exact val_nonneg (by decide) h2.dg
  by_cases hl : n0 ≤ 12 ∧ n1 ≤ 12 ∧ n2 ≤ 12
  · obtain ⟨l0, l1, l2⟩ := hl
    have hS := Lib.hid ((((St.nil_ w).zero.cons h0 l0 hva).cons h1 l1 hvb).cons h2 l2 hvc)
    clear hva hvb hvc h0 h1 h2
    have HF1 := Lib.hid (congrArg limbs (gI_comm vb va))
    have HF2 := Lib.hid (congrArg limbs (gI_mul pa pb pc))
    by_cases hb : vb = 0
    · have HB := Lib.hid hb
      have HF3 := Lib.hid (show limbs (gI va vb) = limbs va by rw [hb, gI_zero pa])
      clear hb
      go_enter Try.func8, Try.ntmps8
      go_wp2_with (first
          | (go_at_call 12; (with_reducible refine (qlong3_n hS.out _ _ _ _ _ _ _ _ _ (by omega) (by omega) (by omega)).mono ?_); rintro e w' ⟨rfl, h1⟩; clear hS; have hS := Lib.hid h1; clear h1)
          | (go_at_call 13; (with_reducible refine (qawake_s hS.out ).mono ?_); rintro e w' ⟨rfl, h1⟩; clear hS; have hS := Lib.hid h1; clear h1)
          | (go_at_call 19; (with_reducible refine (gcd_s hS.out (by repeat (first | exact List.mem_cons_self | apply List.mem_cons_of_mem)) (by repeat (first | exact List.mem_cons_self | apply List.mem_cons_of_mem)) (by omega)).mono ?_); rintro e w' ⟨B5, m5, d5, rfl, h1⟩; clear hS; have hS := Lib.hid h1; clear h1)
          | (go_at_call 26; (with_reducible refine (mul_s hS.out (by repeat (first | exact List.mem_cons_self | apply List.mem_cons_of_mem)) (by repeat (first | exact List.mem_cons_self | apply List.mem_cons_of_mem)) (by omega) (by omega)).mono ?_); rintro e w' ⟨B6, m6, d6, rfl, h1⟩; clear hS; have hS := Lib.hid h1; clear h1)
          | (go_at_call 23; (with_reducible refine (zero_s hS.out (by repeat (first | exact List.mem_cons_self | apply List.mem_cons_of_mem)) HB.out).mono ?_); rintro e w' ⟨rfl, h1⟩; clear hS; have hS := Lib.hid h1; clear h1)
          | (go_at_call 27; (with_reducible refine (trim_s hS.out (by repeat (first | exact List.mem_cons_self | apply List.mem_cons_of_mem)) (by omega)).mono ?_); rintro e w' ⟨B7, m7, d7, rfl, h1⟩; clear hS; have hS := Lib.hid h1; clear h1)
          | (go_at_call 16; (with_reducible refine (qsame_s hS.out (by repeat (first | exact List.mem_cons_self | apply List.mem_cons_of_mem)) (by repeat (first | exact List.mem_cons_self | apply List.mem_cons_of_mem)) (by first | rfl | exact HF1.out | exact HF2.out | exact HF3.out)).mono ?_); rintro e w' ⟨rfl, h1⟩; clear hS; have hS := Lib.hid h1; clear h1))
      go_ret
      exact ⟨rfl, hS.out.1⟩
    · have hb1 : 0 < vb := by omega
      have HB := Lib.hid hb1
      have HG := Lib.hid (gI_pos pa hb1)
      have HM := Lib.hid (gI_dvd pa pb)
      have HF3 := Lib.hid (congrArg limbs (gI_step pa hb1))
      have HF4 := Lib.hid (show limbs (gI (va / gI va vb) (vb / gI va vb)) = [1] by rw [gI_co pa hb1]; exact limbs_is _ (by decide +kernel) (by unfold Dg B; decide +kernel) (by decide +kernel))
      clear hb hb1 pa pb pc
      go_enter Try.func8, Try.ntmps8
      go_wp2_with (first
          | (go_at_call 12; (with_reducible refine (qlong3_n hS.out _ _ _ _ _ _ _ _ _ (by omega) (by omega) (by omega)).mono ?_); rintro e w' ⟨rfl, h1⟩; clear hS; have hS := Lib.hid h1; clear h1)
          | (go_at_call 13; (with_reducible refine (qawake_s hS.out ).mono ?_); rintro e w' ⟨rfl, h1⟩; clear hS; have hS := Lib.hid h1; clear h1)
          | (go_at_call 19; (with_reducible refine (gcd_s hS.out (by repeat (first | exact List.mem_cons_self | apply List.mem_cons_of_mem)) (by repeat (first | exact List.mem_cons_self | apply List.mem_cons_of_mem)) (by omega)).mono ?_); rintro e w' ⟨B8, m8, d8, rfl, h1⟩; clear hS; have hS := Lib.hid h1; clear h1)
          | (go_at_call 26; (with_reducible refine (mul_s hS.out (by repeat (first | exact List.mem_cons_self | apply List.mem_cons_of_mem)) (by repeat (first | exact List.mem_cons_self | apply List.mem_cons_of_mem)) (by omega) (by omega)).mono ?_); rintro e w' ⟨B9, m9, d9, rfl, h1⟩; clear hS; have hS := Lib.hid h1; clear h1)
          | (go_at_call 23; (with_reducible refine (zero_n hS.out (by repeat (first | exact List.mem_cons_self | apply List.mem_cons_of_mem)) HB.out).mono ?_); rintro e w' ⟨rfl, h1⟩; clear hS; have hS := Lib.hid h1; clear h1)
          | (go_at_call 15; (with_reducible refine (div_s hS.out (by repeat (first | exact List.mem_cons_self | apply List.mem_cons_of_mem)) (by repeat (first | exact List.mem_cons_self | apply List.mem_cons_of_mem)) (by omega) (by omega) HG.out).mono ?_); rintro e w' ⟨Bx, mx, dx, Cx, nx, ex, rfl, h1⟩; obtain rfl : nx = 0 := by { have h9 := (h1.get List.mem_cons_self).1.len; (first | rw [HM.out.1] at h9 | rw [HM.out.2] at h9); rw [limbs_zero] at h9; exact h9.symm }; clear hS; have hS := Lib.hid h1; clear h1)
          | (go_at_call 15; (with_reducible refine (div_s hS.out (by repeat (first | exact List.mem_cons_self | apply List.mem_cons_of_mem)) (by repeat (first | exact List.mem_cons_self | apply List.mem_cons_of_mem)) (by omega) (by omega) HB.out).mono ?_); rintro e w' ⟨B10, m10, d10, C10, n10', e10, rfl, h1⟩; clear hS; have hS := Lib.hid h1; clear h1)
          | (go_at_call 16; (with_reducible refine (qsame_s hS.out (by repeat (first | exact List.mem_cons_self | apply List.mem_cons_of_mem)) (by repeat (first | exact List.mem_cons_self | apply List.mem_cons_of_mem)) (by first | rfl | exact HF1.out | exact HF2.out | exact HF3.out)).mono ?_); rintro e w' ⟨rfl, h1⟩; clear hS; have hS := Lib.hid h1; clear h1)
          | (go_at_call 16; (with_reducible refine (qsame_s (hS.out.lit1 1 (by omega)) (by repeat (first | exact List.mem_cons_self | apply List.mem_cons_of_mem)) (by repeat (first | exact List.mem_cons_self | apply List.mem_cons_of_mem)) (by exact HF4.out)).mono ?_); rintro e w' ⟨rfl, h1⟩; clear hS; have hS := Lib.hid h1; clear h1))
      go_ret
      exact ⟨rfl, hS.out.1⟩
  · have HL := Lib.hid hl
    clear h0 h1 hl hva hvb hvc h2
    have hS := Lib.hid (St.nil_ w)
    go_enter Try.func8, Try.ntmps8
    go_wp2_with (first
        | (go_at_call 12; (with_reducible refine (qlong3_y hS.out _ _ _ _ _ _ _ _ _ (by omega) (by omega) (by omega) HL.out).mono ?_); rintro e w' ⟨rfl, h1⟩; clear hS; have hS := Lib.hid h1; clear h1)
        | (go_at_call 13; (with_reducible refine (qawake_s hS.out ).mono ?_); rintro e w' ⟨rfl, h1⟩; clear hS; have hS := Lib.hid h1; clear h1))
    go_ret
    exact ⟨rfl, hS.out.1⟩
set_option maxRecDepth 100000 in
theorem lifted (os : Os) (started : os.Started) (H : Type) (enc : TypeId × Value → H) :
    ReturnsInHanded {} Try.checked os 8 .any (Rows.quoDivisorsSpec.pre6 enc Try.prog Try.f8 Rows.quoDivisorsRow.domain false) (Rows.quoDivisorsSpec.post enc Try.prog Try.f8 false true false false) := by
  refine returnsInHanded_of_change (C := Try.checked) own started (by kernel_rfl) Try.func8
    (ChangeSpec.witness6 (enc := enc) (C := Try.checked) false ⟨#[], #[.slice none 0 0, .slice none 0 0, .slice none 0 0], []⟩ 8 (by kernel_rfl) (by kernel_rfl) (by kernel_rfl) (by kernel_rfl)) ?_
  intro W base args ds gs before hval0 hW hcnd _
  have hval : ∀ (j : Nat) t v, Try.f8.params[j]? = some t → args[j]? = some v → Value.okWide Try.prog W .any base t v := hval0
  have hW' := hW
  obtain ⟨p, q, hA0, hV, hpq, hfz, hnd⟩ := hW
  have hA : DataW.TrodAll enc Try.prog W 0 (fun _ => true) true Try.f8.params.toList args.toList ds p := hA0
  rw [Try.params8] at hA hval
  obtain ⟨v0, vs0, d0, ds0, p0, q0, hargs, rfl, rfl, h0, r0⟩ := trodAll_cons hA
  obtain ⟨v1, vs1, d1, ds1, p1, q1, rfl, rfl, rfl, h1, r1⟩ := trodAll_cons r0
  obtain ⟨v2, vs2, d2, ds2, p2, q2, rfl, rfl, rfl, h2, r2⟩ := trodAll_cons r1
  obtain ⟨rfl, rfl, rfl⟩ := trodAll_nil r2
  obtain rfl : args = #[v0, v1, v2] := by cases args; simp_all
  obtain ⟨rfl, rfl⟩ := trodVars_none hV
  obtain ⟨A0, n0, c0, xs0, rfl, s0⟩ := open_natural (hval 0 23 v0 rfl rfl) h0
  obtain ⟨A1, n1, c1, xs1, rfl, s1⟩ := open_natural (hval 1 23 v1 rfl rfl) h1
  obtain ⟨A2, n2, c2, xs2, rfl, s2⟩ := open_natural (hval 2 23 v2 rfl rfl) h2
  refine (walk W A0 n0 c0 xs0 s0 A1 n1 c1 xs1 s1 A2 n2 c2 xs2 s2).mono fun e W' ⟨he, hb⟩ => ?_
  subst he
  exact ⟨_, rfl, Frame.close laidOut hW' rfl rfl rfl Try.underlying4 (fun t ht => by rw [Try.params8] at ht; simp at ht; rcases ht with rfl <;> exact ⟨by kernel_rfl, of_decide_eq_true (by kernel_rfl)⟩) hb⟩
theorem over : Rows.quoDivisorsRow.holds Try.pinned (OpenSpec.ofChange Rows.quoDivisorsSpec) :=
  OpenClaim.holds_of_wide 8 Try.f8 rfl rfl rfl rfl rfl rfl rfl ⟨rfl, rfl, rfl, rfl, rfl⟩ rfl rfl rfl rfl rfl (by kernel_rfl) Try.func8 (by kernel_rfl)
    (of_decide_eq_true (by kernel_rfl)) (by unfold Func.isWrapper; first | (rw [if_pos (by decide +kernel)]; kernel_rfl) | (rw [if_neg (by decide +kernel)]; exact ⟨rfl, rfl⟩))
    (fun os started H enc _ => lifted os started H enc)
/-- the statement -/
theorem proved : Rows.QuoDivisorsSaid :=
  over
#print axioms proved
end Go.Proofs.Ytbjhfnkdflnnoaa.quoDivisors
