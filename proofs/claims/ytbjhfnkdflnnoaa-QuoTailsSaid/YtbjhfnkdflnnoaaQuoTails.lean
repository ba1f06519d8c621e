/-
  PROVED: the statement QuoTails (tombolalaw03.QuoTails) about the landed commit: for every input the law returns true and leaves its arguments as they were. Conditions: none beyond those that the given row itself prints.
-/
import Derived.Test.YtbjhfnkdflnnoaaRows
import Derived.WalkKit
import Derived.ProofKit
import Derived.OpenShut
import Derived.RowKit3
import Derived.Test.YtbjhfnkdflnnoaaLawFrame
import Derived.Test.YtbjhfnkdflnnoaaNatOpen
import Derived.Test.YtbjhfnkdflnnoaaQuoAwake
import Derived.Test.YtbjhfnkdflnnoaaQuoTail
namespace Go.Proofs.Ytbjhfnkdflnnoaa.quoTails
open Go.ChangeShapes Go.WideShapes Go.ChangeAt Go.RowKit
set_option linter.unusedVariables false
open N
theorem own : ownKnob Try.prog.godebug = none := by kernel_rfl
theorem powOk_of {v : Int} (h0 : 0 ≤ v) {L q : Nat} (hv : v < 2 ^ L) (h : L * q ≤ 1048576) : PowOk v q := by
  by_cases hz : v = 0
  · exact .inl hz
  · right
    obtain ⟨k, e1, e2, e3⟩ := len_spec v h0
    have hk0 : k ≠ 0 := by rintro rfl; simp at e2; omega
    have e3' : 2 ^ (k - 1) ≤ v := by rcases e3 with e3 | e3; exact absurd e3 hk0; exact e3
    have hkL : k ≤ L := by
      apply Classical.byContradiction; intro hc
      have e5 : (2 : Int) ^ L ≤ 2 ^ (k - 1) := by rw [← W.cast_pow, ← W.cast_pow]; exact Int.ofNat_le.2 (Nat.pow_le_pow_right (by omega) (by omega))
      omega
    rw [e1]
    refine (Int.le_ediv_iff_mul_le (show (0 : Int) < k by omega)).2 ?_
    have h1 : k * q ≤ L * q := Nat.mul_le_mul_right q hkL
    have h2 : (q : Int) * k = ((k * q : Nat) : Int) := by rw [Int.natCast_mul, Int.mul_comm]
    omega
theorem limbs_below {xs : List Int} {n T : Nat} (h : Dg B xs) (hl : xs.length = n) (hn : n ≤ T) : val B xs < 2 ^ (64 * T) := by
  have h1 := val_lt (b := B) (by decide) h
  rw [hl, Q_two] at h1
  have e5 : (2 : Int) ^ (64 * n) ≤ 2 ^ (64 * T) := by rw [← W.cast_pow, ← W.cast_pow]; exact Int.ofNat_le.2 (Nat.pow_le_pow_right (by omega) (by omega))
  exact Int.lt_of_lt_of_le h1 e5
set_option maxRecDepth 100000 in
set_option maxHeartbeats 4000000 in
theorem walk (w : World) (A0 : Option Addr) (n0 c0 : Nat) (xs0 : List Int) (h0 : Sl w A0 n0 c0 xs0) (A1 : Option Addr) (n1 c1 : Nat) (xs1 : List Int) (h1 : Sl w A1 n1 c1 xs1) (a2 : Int) (w2 : (Lit.int .u8 a2).wf = true) (a3 : Int) (w3 : (Lit.int .u8 a3).wf = true) (a4 : Int) (w4 : (Lit.int .u8 a4).wf = true) :
    Calls Try.prog 10 #[.slice A0 n0 c0, .slice A1 n1 c1, .int .u8 a2, .int .u8 a3, .int .u8 a4] w fun e w' => e = .returned (.bool true) ∧ Below w.heap.size w w' := by
  have hc0 := h0.cap
  have hm0 := h0.max
  have hc1 := h1.cap
  have hm1 := h1.max
  unfold maxLen at hm0 hm1
  obtain ⟨va, hva⟩ : ∃ v : Int, val B xs0 = v := ⟨_, rfl⟩
  obtain ⟨vb, hvb⟩ : ∃ v : Int, val B xs1 = v := ⟨_, rfl⟩
  have pa : 0 ≤ va := by rw [← hva]; exact val_nonneg (by decide) h0.dg
  have pb : 0 ≤ vb := by rw [← hvb]; exact val_nonneg (by decide) h1.dg
  have ba := bounds_u8 w2
  have bb := bounds_u8 w3
  have bc := bounds_u8 w4
  obtain ⟨I, hI, hI9⟩ : ∃ I : Nat, a2 % 5 = (I : Int) ∧ I ≤ 4 := ⟨(a2 % 5).toNat, by omega, by omega⟩
  obtain ⟨K, hK, hK9⟩ : ∃ K : Nat, a3 % 5 = (K : Int) ∧ K ≤ 4 := ⟨(a3 % 5).toNat, by omega, by omega⟩
  obtain ⟨P, hP, hP9⟩ : ∃ P : Nat, a4 % 5 = (P : Int) ∧ P ≤ 4 := ⟨(a4 % 5).toNat, by omega, by omega⟩
  by_cases hl : n0 ≤ 12 ∧ n1 ≤ 12
  · obtain ⟨l0, l1⟩ := hl
    have va3 := limbs_below h0.dg h0.len l0
    rw [hva] at va3
    have tP : ((P : Int)).toNat = P := Int.toNat_natCast _
    have O1 := Lib.hid (show PowOk va ((P : Int)).toNat by rw [tP]; exact powOk_of pa va3 (by omega))
    have hS := Lib.hid ((((St.nil_ w).zero.cons h0 l0 hva).cons h1 l1 hvb))
    have HVA := Lib.hid hva
    have HVB := Lib.hid hvb
    clear hva hvb h0 h1 va3 tP
    by_cases hb : vb = 0
    · have HB := Lib.hid hb
      clear hb pa pb
      go_enter Try.func10, Try.ntmps10
      go_wp2_with (first
          | (go_at_call 12; (with_reducible refine (qlong2_n hS.out _ _ _ _ _ _ (by omega) (by omega)).mono ?_); rintro e w' ⟨rfl, h1⟩; clear hS; have hS := Lib.hid h1; clear h1)
          | (go_at_call 13; (with_reducible refine (qawake_s hS.out ).mono ?_); rintro e w' ⟨rfl, h1⟩; clear hS; have hS := Lib.hid h1; clear h1)
          | (at_builtin; refine wp_copy hS.out (by repeat (first | exact List.mem_cons_self | apply List.mem_cons_of_mem)) (by omega) rfl _ _ rfl rfl rfl ?_; intro A2 c2 w2 hown2 hb2; have HO := Lib.hid hown2; have HBW := Lib.hid hb2; clear hown2 hb2)
          | (at_builtin; refine wp_tail hS.out HO.out HBW.out (by omega) HVA.out I (by omega) rfl _ _ rfl rfl (by first | rfl | exact congrArg (Value.int .u8) hI | exact congrArg (Value.int .u8) hK) ?_; intro A3 c3 w3 h1; clear hS; have hS := Lib.hid h1; clear h1)
          | (at_builtin; refine wp_tail hS.out HO.out HBW.out (by omega) HVB.out K (by omega) rfl _ _ rfl rfl (by first | rfl | exact congrArg (Value.int .u8) hI | exact congrArg (Value.int .u8) hK) ?_; intro A3 c3 w3 h1; clear hS; have hS := Lib.hid h1; clear h1)
          | (go_at_call 15; (with_reducible refine (div_z hS.out (by repeat (first | exact List.mem_cons_self | apply List.mem_cons_of_mem)) (by repeat (first | exact List.mem_cons_self | apply List.mem_cons_of_mem)) (by omega) (by omega) HB.out).mono ?_); rintro e w' ⟨rfl, h1⟩; clear hS; have hS := Lib.hid h1; clear h1)
          | (go_at_call 19; (with_reducible refine (gcd_s hS.out (by repeat (first | exact List.mem_cons_self | apply List.mem_cons_of_mem)) (by repeat (first | exact List.mem_cons_self | apply List.mem_cons_of_mem)) (by omega)).mono ?_); rintro e w' ⟨B9, m9, d9, rfl, h1⟩; clear hS; have hS := Lib.hid h1; clear h1)
          | (go_at_call 22; (with_reducible refine (pow_i hS.out (by repeat (first | exact List.mem_cons_self | apply List.mem_cons_of_mem)) (by omega) (by omega) (by omega) O1.out).mono ?_); rintro e w' ⟨B10, m10, d10, rfl, h1⟩; clear hS; have hS := Lib.hid h1; clear h1)
          | (go_at_call 27; (with_reducible refine (trim_s hS.out (by repeat (first | exact List.mem_cons_self | apply List.mem_cons_of_mem)) (by omega)).mono ?_); rintro e w' ⟨B11, m11, d11, rfl, h1⟩; clear hS; have hS := Lib.hid h1; clear h1)
          | (go_at_call 16; (with_reducible refine (qsame_s hS.out (by repeat (first | exact List.mem_cons_self | apply List.mem_cons_of_mem)) (by repeat (first | exact List.mem_cons_self | apply List.mem_cons_of_mem)) (by first | rfl | exact limbs_zero.symm)).mono ?_); rintro e w' ⟨rfl, h1⟩; clear hS; have hS := Lib.hid h1; clear h1))
      go_ret
      exact ⟨rfl, hS.out.1⟩
    · have HB := Lib.hid (show 0 < vb by omega)
      clear hb pa pb
      go_enter Try.func10, Try.ntmps10
      go_wp2_with (first
          | (go_at_call 12; (with_reducible refine (qlong2_n hS.out _ _ _ _ _ _ (by omega) (by omega)).mono ?_); rintro e w' ⟨rfl, h1⟩; clear hS; have hS := Lib.hid h1; clear h1)
          | (go_at_call 13; (with_reducible refine (qawake_s hS.out ).mono ?_); rintro e w' ⟨rfl, h1⟩; clear hS; have hS := Lib.hid h1; clear h1)
          | (at_builtin; refine wp_copy hS.out (by repeat (first | exact List.mem_cons_self | apply List.mem_cons_of_mem)) (by omega) rfl _ _ rfl rfl rfl ?_; intro A2 c2 w2 hown2 hb2; have HO := Lib.hid hown2; have HBW := Lib.hid hb2; clear hown2 hb2)
          | (at_builtin; refine wp_tail hS.out HO.out HBW.out (by omega) HVA.out I (by omega) rfl _ _ rfl rfl (by first | rfl | exact congrArg (Value.int .u8) hI | exact congrArg (Value.int .u8) hK) ?_; intro A3 c3 w3 h1; clear hS; have hS := Lib.hid h1; clear h1)
          | (at_builtin; refine wp_tail hS.out HO.out HBW.out (by omega) HVB.out K (by omega) rfl _ _ rfl rfl (by first | rfl | exact congrArg (Value.int .u8) hI | exact congrArg (Value.int .u8) hK) ?_; intro A3 c3 w3 h1; clear hS; have hS := Lib.hid h1; clear h1)
          | (go_at_call 15; (with_reducible refine (div_s hS.out (by repeat (first | exact List.mem_cons_self | apply List.mem_cons_of_mem)) (by repeat (first | exact List.mem_cons_self | apply List.mem_cons_of_mem)) (by omega) (by omega) HB.out).mono ?_); rintro e w' ⟨B12, m12, d12, C12, n12', e12, rfl, h1⟩; clear hS; have hS := Lib.hid h1; clear h1)
          | (go_at_call 19; (with_reducible refine (gcd_s hS.out (by repeat (first | exact List.mem_cons_self | apply List.mem_cons_of_mem)) (by repeat (first | exact List.mem_cons_self | apply List.mem_cons_of_mem)) (by omega)).mono ?_); rintro e w' ⟨B13, m13, d13, rfl, h1⟩; clear hS; have hS := Lib.hid h1; clear h1)
          | (go_at_call 22; (with_reducible refine (pow_i hS.out (by repeat (first | exact List.mem_cons_self | apply List.mem_cons_of_mem)) (by omega) (by omega) (by omega) O1.out).mono ?_); rintro e w' ⟨B14, m14, d14, rfl, h1⟩; clear hS; have hS := Lib.hid h1; clear h1)
          | (go_at_call 27; (with_reducible refine (trim_s hS.out (by repeat (first | exact List.mem_cons_self | apply List.mem_cons_of_mem)) (by omega)).mono ?_); rintro e w' ⟨B15, m15, d15, rfl, h1⟩; clear hS; have hS := Lib.hid h1; clear h1)
          | (go_at_call 16; (with_reducible refine (qsame_s hS.out (by repeat (first | exact List.mem_cons_self | apply List.mem_cons_of_mem)) (by repeat (first | exact List.mem_cons_self | apply List.mem_cons_of_mem)) (by first | rfl | exact limbs_zero.symm)).mono ?_); rintro e w' ⟨rfl, h1⟩; clear hS; have hS := Lib.hid h1; clear h1))
      go_ret
      exact ⟨rfl, hS.out.1⟩
  · have HL := Lib.hid hl
    clear hl
    have hS := Lib.hid (St.nil_ w)
    clear h0 h1 hva hvb hI hK hP
    go_enter Try.func10, Try.ntmps10
    go_wp2_with (first
        | (go_at_call 12; (with_reducible refine (qlong2_y hS.out _ _ _ _ _ _ (by omega) (by omega) HL.out).mono ?_); rintro e w' ⟨rfl, h1⟩; clear hS; have hS := Lib.hid h1; clear h1)
        | (go_at_call 13; (with_reducible refine (qawake_s hS.out ).mono ?_); rintro e w' ⟨rfl, h1⟩; clear hS; have hS := Lib.hid h1; clear h1))
    go_ret
    exact ⟨rfl, hS.out.1⟩
set_option maxRecDepth 100000 in
theorem lifted (os : Os) (started : os.Started) (H : Type) (enc : TypeId × Value → H) :
    ReturnsInHanded {} Try.checked os 10 .any (Rows.quoTailsSpec.pre6 enc Try.prog Try.f10 Rows.quoTailsRow.domain false) (Rows.quoTailsSpec.post enc Try.prog Try.f10 false true false false) := by
  refine returnsInHanded_of_change (C := Try.checked) own started (by kernel_rfl) Try.func10
    (ChangeSpec.witness6 (enc := enc) (C := Try.checked) false ⟨#[], #[.slice none 0 0, .slice none 0 0, .int .u8 0, .int .u8 0, .int .u8 0], []⟩ 8 (by kernel_rfl) (by kernel_rfl) (by kernel_rfl) (by kernel_rfl)) ?_
  intro W base args ds gs before hval0 hW hcnd _
  have hval : ∀ (j : Nat) t v, Try.f10.params[j]? = some t → args[j]? = some v → Value.okWide Try.prog W .any base t v := hval0
  have hW' := hW
  obtain ⟨p, q, hA0, hV, hpq, hfz, hnd⟩ := hW
  have hA : DataW.TrodAll enc Try.prog W 0 (fun _ => true) true Try.f10.params.toList args.toList ds p := hA0
  rw [Try.params10] at hA hval
  obtain ⟨v0, vs0, d0, ds0, p0, q0, hargs, rfl, rfl, h0, r0⟩ := trodAll_cons hA
  obtain ⟨v1, vs1, d1, ds1, p1, q1, rfl, rfl, rfl, h1, r1⟩ := trodAll_cons r0
  obtain ⟨v2, vs2, d2, ds2, p2, q2, rfl, rfl, rfl, h2, r2⟩ := trodAll_cons r1
  obtain ⟨v3, vs3, d3, ds3, p3, q3, rfl, rfl, rfl, h3, r3⟩ := trodAll_cons r2
  obtain ⟨v4, vs4, d4, ds4, p4, q4, rfl, rfl, rfl, h4, r4⟩ := trodAll_cons r3
  obtain ⟨rfl, rfl, rfl⟩ := trodAll_nil r4
  obtain rfl : args = #[v0, v1, v2, v3, v4] := by cases args; simp_all
  obtain ⟨rfl, rfl⟩ := trodVars_none hV
  obtain ⟨A0, n0, c0, xs0, rfl, s0⟩ := open_natural (hval 0 23 v0 rfl rfl) h0
  obtain ⟨A1, n1, c1, xs1, rfl, s1⟩ := open_natural (hval 1 23 v1 rfl rfl) h1
  obtain ⟨a2, rfl, rfl, rfl, w2⟩ := open_int Try.underlying5 (hval 2 5 v2 rfl rfl) h2
  obtain ⟨a3, rfl, rfl, rfl, w3⟩ := open_int Try.underlying5 (hval 3 5 v3 rfl rfl) h3
  obtain ⟨a4, rfl, rfl, rfl, w4⟩ := open_int Try.underlying5 (hval 4 5 v4 rfl rfl) h4
  refine (walk W A0 n0 c0 xs0 s0 A1 n1 c1 xs1 s1 a2 w2 a3 w3 a4 w4).mono fun e W' ⟨he, hb⟩ => ?_
  subst he
  exact ⟨_, rfl, Frame.close laidOut hW' rfl rfl rfl Try.underlying4 (fun t ht => by rw [Try.params10] at ht; simp at ht; rcases ht with rfl | rfl <;> exact ⟨by kernel_rfl, of_decide_eq_true (by kernel_rfl)⟩) hb⟩
theorem over : Rows.quoTailsRow.holds Try.pinned (OpenSpec.ofChange Rows.quoTailsSpec) :=
  OpenClaim.holds_of_wide 10 Try.f10 rfl rfl rfl rfl rfl rfl rfl ⟨rfl, rfl, rfl, rfl, rfl⟩ rfl rfl rfl rfl rfl (by kernel_rfl) Try.func10 (by kernel_rfl)
    (of_decide_eq_true (by kernel_rfl)) (by unfold Func.isWrapper; first | (rw [if_pos (by decide +kernel)]; kernel_rfl) | (rw [if_neg (by decide +kernel)]; exact ⟨rfl, rfl⟩))
    (fun os started H enc _ => lifted os started H enc)
/-- the statement -/
theorem proved : Rows.QuoTailsSaid :=
  over
#print axioms proved
end Go.Proofs.Ytbjhfnkdflnnoaa.quoTails
