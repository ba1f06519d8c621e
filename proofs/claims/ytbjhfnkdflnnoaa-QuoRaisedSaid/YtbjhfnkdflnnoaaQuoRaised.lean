/-
  PROVED: the statement QuoRaised (tombolalaw03.QuoRaised) about the landed commit: for every input the law returns true and leaves its arguments as they were. Conditions: none beyond those that the given row itself prints.
-/
import Derived.Test.YtbjhfnkdflnnoaaRows
import Derived.WalkKit
import Derived.ProofKit
import Derived.OpenShut
import Derived.RowKit3
import Derived.Test.YtbjhfnkdflnnoaaLawFrame
import Derived.Test.YtbjhfnkdflnnoaaNatOpen
import Derived.Test.YtbjhfnkdflnnoaaQuoAwake
namespace Go.Proofs.Ytbjhfnkdflnnoaa.quoRaised
open Go.ChangeShapes Go.WideShapes Go.ChangeAt Go.RowKit
set_option linter.unusedVariables false
open N
theorem own : ownKnob Try.prog.godebug = none := by kernel_rfl
theorem powOk_of {v : Int} (h0 : 0 ≤ v) {L q : Nat} (hv : v < 2 ^ L) (h : L * q ≤ 1048576) : PowOk v q := by
  by_cases hz : v = 0
  · exact .inl hz
  · right
    obtain ⟨k, e1, e2, e3⟩ := len_spec v h0
    have hk0 : k ≠ 0 := by rintro rfl; simp at e2; omega
    have e3' : 2 ^ (k - 1) ≤ v := by rcases e3 with e3 | e3; exact absurd e3 hk0; exact e3
    have hkL : k ≤ L := by
      apply Classical.byContradiction; intro hc
      have e5 : (2 : Int) ^ L ≤ 2 ^ (k - 1) := by rw [← W.cast_pow, ← W.cast_pow]; exact Int.ofNat_le.2 (Nat.pow_le_pow_right (by omega) (by omega))
      omega
    rw [e1]
    refine (Int.le_ediv_iff_mul_le (show (0 : Int) < k by omega)).2 ?_
    have h1 : k * q ≤ L * q := Nat.mul_le_mul_right q hkL
    have h2 : (q : Int) * k = ((k * q : Nat) : Int) := by rw [Int.natCast_mul, Int.mul_comm]
    omega
theorem pow_below {v : Int} (h0 : 0 ≤ v) {L : Nat} (hv : v < 2 ^ L) (e : Nat) : v ^ e < 2 ^ (L * e + 1) := by
  obtain ⟨m, rfl⟩ := Int.eq_ofNat_of_zero_le h0
  rw [← W.cast_pow] at hv
  have h1 := pow_le_two (m := m) (k := L) (e := e) (T := L * e) (by omega) (Nat.le_refl _)
  have hp := W.pow_pos (L * e)
  rw [Int.pow_succ]
  omega
theorem limbs_below {xs : List Int} {n : Nat} (h : Dg B xs) (hl : xs.length = n) (hn : n ≤ 3) : val B xs < 2 ^ 192 := by
  have h1 := val_lt (b := B) (by decide) h
  rw [hl, Q_two] at h1
  have e5 : (2 : Int) ^ (64 * n) ≤ 2 ^ 192 := by rw [← W.cast_pow, ← W.cast_pow]; exact Int.ofNat_le.2 (Nat.pow_le_pow_right (by omega) (by omega))
  omega
set_option maxRecDepth 100000 in
set_option maxHeartbeats 4000000 in
theorem walk (w : World) (A0 : Option Addr) (n0 c0 : Nat) (xs0 : List Int) (h0 : Sl w A0 n0 c0 xs0) (A1 : Option Addr) (n1 c1 : Nat) (xs1 : List Int) (h1 : Sl w A1 n1 c1 xs1) (a2 : Int) (w2 : (Lit.int .u8 a2).wf = true) (a3 : Int) (w3 : (Lit.int .u8 a3).wf = true) :
    Calls Try.prog 9 #[.slice A0 n0 c0, .slice A1 n1 c1, .int .u8 a2, .int .u8 a3] w fun e w' => e = .returned (.bool true) ∧ Below w.heap.size w w' := by
  have hc0 := h0.cap
  have hm0 := h0.max
  have hc1 := h1.cap
  have hm1 := h1.max
  unfold maxLen at hm0 hm1
  obtain ⟨va, hva⟩ : ∃ v : Int, val B xs0 = v := ⟨_, rfl⟩
  obtain ⟨vb, hvb⟩ : ∃ v : Int, val B xs1 = v := ⟨_, rfl⟩
  have pa : 0 ≤ va := by rw [← hva]; exact val_nonneg (by decide) h0.dg
  have pb : 0 ≤ vb := by rw [← hvb]; exact val_nonneg (by decide) h1.dg
  have ba := bounds_u8 w2
  have bb := bounds_u8 w3
  obtain ⟨I, hI, hI9⟩ : ∃ I : Nat, a2 % 10 = (I : Int) ∧ I ≤ 9 := ⟨(a2 % 10).toNat, by omega, by omega⟩
  obtain ⟨K, hK, hK9⟩ : ∃ K : Nat, a3 % 10 = (K : Int) ∧ K ≤ 9 := ⟨(a3 % 10).toNat, by omega, by omega⟩
  have hIK : I * K ≤ 81 := Nat.le_trans (Nat.mul_le_mul hI9 hK9) (by decide)
  have hIK1 : (0 : Int) ≤ (I : Int) * K := by rw [← Int.natCast_mul]; omega
  have hIK2 : (I : Int) * K ≤ 81 := by rw [← Int.natCast_mul]; omega
  by_cases hl : n0 ≤ 12 ∧ n1 ≤ 12
  · obtain ⟨l0, l1⟩ := hl
    by_cases h3 : n0 ≤ 3
    · by_cases h4 : n1 ≤ 3
      · skip
        have va3 := limbs_below h0.dg h0.len h3
        have vb3 := limbs_below h1.dg h1.len h4
        rw [hva] at va3
        rw [hvb] at vb3
        have tI : ((I : Int)).toNat = I := Int.toNat_natCast _
        have tK : ((K : Int)).toNat = K := Int.toNat_natCast _
        have tS : ((I : Int) + K).toNat = I + K := by omega
        have tP : ((I : Int) * K).toNat = I * K := by rw [← Int.natCast_mul]; exact Int.toNat_natCast _
        have tT : (7 * (I : Int) + K).toNat = 7 * I + K := by omega
        have O1 := Lib.hid (show PowOk va ((I : Int)).toNat by rw [tI]; exact powOk_of pa va3 (by omega))
        have O2 := Lib.hid (show PowOk va ((K : Int)).toNat by rw [tK]; exact powOk_of pa va3 (by omega))
        have O3 := Lib.hid (show PowOk va ((I : Int) + K).toNat by rw [tS]; exact powOk_of pa va3 (by omega))
        have O4 := Lib.hid (show PowOk vb ((I : Int)).toNat by rw [tI]; exact powOk_of pb vb3 (by omega))
        have hab : va * vb < 2 ^ 384 := by
          have h9 : va * vb ≤ 2 ^ 192 * vb := Int.mul_le_mul_of_nonneg_right (by omega) pb
          have h8 : (2 : Int) ^ 192 * vb < 2 ^ 192 * 2 ^ 192 := Int.mul_lt_mul_of_pos_left vb3 (W.pow_pos 192)
          rw [← Int.pow_add] at h8
          exact Int.lt_of_le_of_lt h9 h8
        have O5 := Lib.hid (show PowOk (va * vb) ((I : Int)).toNat by rw [tI]; exact powOk_of (Int.mul_nonneg pa pb) hab (by omega))
        have O6 := Lib.hid (show PowOk (va ^ ((K : Int)).toNat) ((I : Int)).toNat by
          rw [tI, tK]
          refine powOk_of (Int.pow_nonneg pa) (pow_below pa va3 K) ?_
          have : (192 * K + 1) * I ≤ (192 * 9 + 1) * 9 := Nat.mul_le_mul (by omega) hI9
          omega)
        have O7 := Lib.hid (show PowOk va ((I : Int) * K).toNat by rw [tP]; exact powOk_of pa va3 (by omega))
        have O8 := Lib.hid (show PowOk 2 (7 * (I : Int) + K).toNat by rw [tT]; exact powOk_of (L := 2) (by omega) (by decide) (by omega))
        have HF1 := Lib.hid (show limbs (va ^ ((I : Int)).toNat * va ^ ((K : Int)).toNat) = limbs (va ^ ((I : Int) + K).toNat) by rw [tI, tK, tS, Int.pow_add])
        have HF2 := Lib.hid (show limbs (va ^ ((I : Int)).toNat * vb ^ ((I : Int)).toNat) = limbs ((va * vb) ^ ((I : Int)).toNat) by rw [Int.mul_pow])
        have HF3 := Lib.hid (show limbs ((va ^ ((K : Int)).toNat) ^ ((I : Int)).toNat) = limbs (va ^ ((I : Int) * K).toNat) by rw [tI, tK, tP, ← Int.pow_mul, Nat.mul_comm])
        have HF4 := Lib.hid (show limbs ((2 : Int) ^ (7 * (I : Int) + K).toNat) = limbs (1 * 2 ^ (7 * (I : Int) + K).toNat) by rw [Int.one_mul])
        have hS := Lib.hid ((((St.nil_ w).zero.cons h0 h3 hva).cons h1 h4 hvb))
        clear hva hvb h0 h1 pa pb va3 vb3 hab tI tK tS tP tT hIK
        go_enter Try.func9, Try.ntmps9
        go_wp2_with (first
            | (go_at_call 12; (with_reducible refine (qlong2_n hS.out _ _ _ _ _ _ (by omega) (by omega)).mono ?_); rintro e w' ⟨rfl, h1⟩; clear hS; have hS := Lib.hid h1; clear h1)
            | (go_at_call 13; (with_reducible refine (qawake_s hS.out ).mono ?_); rintro e w' ⟨rfl, h1⟩; clear hS; have hS := Lib.hid h1; clear h1)
            | (go_at_call 22; (with_reducible refine (pow_i hS.out (by repeat (first | exact List.mem_cons_self | apply List.mem_cons_of_mem)) (by omega) (by omega) (by omega) (by first | exact O1.out | exact O2.out | exact O3.out | exact O4.out | exact O5.out | exact O6.out | exact O7.out | exact O8.out)).mono ?_); rintro e w' ⟨B5, m5, d5, rfl, h1⟩; clear hS; have hS := Lib.hid h1; clear h1)
            | (go_at_call 22; (with_reducible refine (pow_i (hS.out.lit1 2 (by omega)) (by repeat (first | exact List.mem_cons_self | apply List.mem_cons_of_mem)) (by omega) (by omega) (by omega) (by first | exact O1.out | exact O2.out | exact O3.out | exact O4.out | exact O5.out | exact O6.out | exact O7.out | exact O8.out)).mono ?_); rintro e w' ⟨B6, m6, d6, rfl, h1⟩; clear hS; have hS := Lib.hid h1; clear h1)
            | (go_at_call 26; (with_reducible refine (mul_s hS.out (by repeat (first | exact List.mem_cons_self | apply List.mem_cons_of_mem)) (by repeat (first | exact List.mem_cons_self | apply List.mem_cons_of_mem)) (by omega) (by omega)).mono ?_); rintro e w' ⟨B7, m7, d7, rfl, h1⟩; clear hS; have hS := Lib.hid h1; clear h1)
            | (go_at_call 28; (with_reducible refine (shl_s (hS.out.lit1 1 (by omega)) (by repeat (first | exact List.mem_cons_self | apply List.mem_cons_of_mem)) (by omega) (by omega) (by omega)).mono ?_); rintro e w' ⟨B8, m8, d8, rfl, h1⟩; clear hS; have hS := Lib.hid h1; clear h1)
            | (go_at_call 16; (with_reducible refine (qsame_s hS.out (by repeat (first | exact List.mem_cons_self | apply List.mem_cons_of_mem)) (by repeat (first | exact List.mem_cons_self | apply List.mem_cons_of_mem)) (by first | rfl | exact HF1.out | exact HF2.out | exact HF3.out | exact HF4.out)).mono ?_); rintro e w' ⟨rfl, h1⟩; clear hS; have hS := Lib.hid h1; clear h1))
        go_ret
        exact ⟨rfl, hS.out.1⟩
      · skip
        have hS := Lib.hid (St.nil_ w)
        clear h0 h1 hva hvb hI hK
        go_enter Try.func9, Try.ntmps9
        go_wp2_with (first
            | (go_at_call 12; (with_reducible refine (qlong2_n hS.out _ _ _ _ _ _ (by omega) (by omega)).mono ?_); rintro e w' ⟨rfl, h1⟩; clear hS; have hS := Lib.hid h1; clear h1)
            | (go_at_call 13; (with_reducible refine (qawake_s hS.out ).mono ?_); rintro e w' ⟨rfl, h1⟩; clear hS; have hS := Lib.hid h1; clear h1))
        go_ret
        exact ⟨rfl, hS.out.1⟩
    · skip
      have hS := Lib.hid (St.nil_ w)
      clear h0 h1 hva hvb hI hK
      go_enter Try.func9, Try.ntmps9
      go_wp2_with (first
          | (go_at_call 12; (with_reducible refine (qlong2_n hS.out _ _ _ _ _ _ (by omega) (by omega)).mono ?_); rintro e w' ⟨rfl, h1⟩; clear hS; have hS := Lib.hid h1; clear h1)
          | (go_at_call 13; (with_reducible refine (qawake_s hS.out ).mono ?_); rintro e w' ⟨rfl, h1⟩; clear hS; have hS := Lib.hid h1; clear h1))
      go_ret
      exact ⟨rfl, hS.out.1⟩
  · have HL := Lib.hid hl
    clear hl
    have hS := Lib.hid (St.nil_ w)
    clear h0 h1 hva hvb hI hK
    go_enter Try.func9, Try.ntmps9
    go_wp2_with (first
        | (go_at_call 12; (with_reducible refine (qlong2_y hS.out _ _ _ _ _ _ (by omega) (by omega) HL.out).mono ?_); rintro e w' ⟨rfl, h1⟩; clear hS; have hS := Lib.hid h1; clear h1)
        | (go_at_call 13; (with_reducible refine (qawake_s hS.out ).mono ?_); rintro e w' ⟨rfl, h1⟩; clear hS; have hS := Lib.hid h1; clear h1))
    go_ret
    exact ⟨rfl, hS.out.1⟩
set_option maxRecDepth 100000 in
theorem lifted (os : Os) (started : os.Started) (H : Type) (enc : TypeId × Value → H) :
    ReturnsInHanded {} Try.checked os 9 .any (Rows.quoRaisedSpec.pre6 enc Try.prog Try.f9 Rows.quoRaisedRow.domain false) (Rows.quoRaisedSpec.post enc Try.prog Try.f9 false true false false) := by
  refine returnsInHanded_of_change (C := Try.checked) own started (by kernel_rfl) Try.func9
    (ChangeSpec.witness6 (enc := enc) (C := Try.checked) false ⟨#[], #[.slice none 0 0, .slice none 0 0, .int .u8 0, .int .u8 0], []⟩ 8 (by kernel_rfl) (by kernel_rfl) (by kernel_rfl) (by kernel_rfl)) ?_
  intro W base args ds gs before hval0 hW hcnd _
  have hval : ∀ (j : Nat) t v, Try.f9.params[j]? = some t → args[j]? = some v → Value.okWide Try.prog W .any base t v := hval0
  have hW' := hW
  obtain ⟨p, q, hA0, hV, hpq, hfz, hnd⟩ := hW
  have hA : DataW.TrodAll enc Try.prog W 0 (fun _ => true) true Try.f9.params.toList args.toList ds p := hA0
  rw [Try.params9] at hA hval
  obtain ⟨v0, vs0, d0, ds0, p0, q0, hargs, rfl, rfl, h0, r0⟩ := trodAll_cons hA
  obtain ⟨v1, vs1, d1, ds1, p1, q1, rfl, rfl, rfl, h1, r1⟩ := trodAll_cons r0
  obtain ⟨v2, vs2, d2, ds2, p2, q2, rfl, rfl, rfl, h2, r2⟩ := trodAll_cons r1
  obtain ⟨v3, vs3, d3, ds3, p3, q3, rfl, rfl, rfl, h3, r3⟩ := trodAll_cons r2
  obtain ⟨rfl, rfl, rfl⟩ := trodAll_nil r3
  obtain rfl : args = #[v0, v1, v2, v3] := by cases args; simp_all
  obtain ⟨rfl, rfl⟩ := trodVars_none hV
  obtain ⟨A0, n0, c0, xs0, rfl, s0⟩ := open_natural (hval 0 23 v0 rfl rfl) h0
  obtain ⟨A1, n1, c1, xs1, rfl, s1⟩ := open_natural (hval 1 23 v1 rfl rfl) h1
  obtain ⟨a2, rfl, rfl, rfl, w2⟩ := open_int Try.underlying5 (hval 2 5 v2 rfl rfl) h2
  obtain ⟨a3, rfl, rfl, rfl, w3⟩ := open_int Try.underlying5 (hval 3 5 v3 rfl rfl) h3
  refine (walk W A0 n0 c0 xs0 s0 A1 n1 c1 xs1 s1 a2 w2 a3 w3).mono fun e W' ⟨he, hb⟩ => ?_
  subst he
  exact ⟨_, rfl, Frame.close laidOut hW' rfl rfl rfl Try.underlying4 (fun t ht => by rw [Try.params9] at ht; simp at ht; rcases ht with rfl | rfl <;> exact ⟨by kernel_rfl, of_decide_eq_true (by kernel_rfl)⟩) hb⟩
theorem over : Rows.quoRaisedRow.holds Try.pinned (OpenSpec.ofChange Rows.quoRaisedSpec) :=
  OpenClaim.holds_of_wide 9 Try.f9 rfl rfl rfl rfl rfl rfl rfl ⟨rfl, rfl, rfl, rfl, rfl⟩ rfl rfl rfl rfl rfl (by kernel_rfl) Try.func9 (by kernel_rfl)
    (of_decide_eq_true (by kernel_rfl)) (by unfold Func.isWrapper; first | (rw [if_pos (by decide +kernel)]; kernel_rfl) | (rw [if_neg (by decide +kernel)]; exact ⟨rfl, rfl⟩))
    (fun os started H enc _ => lifted os started H enc)
/-- the statement -/
theorem proved : Rows.QuoRaisedSaid :=
  over
#print axioms proved
end Go.Proofs.Ytbjhfnkdflnnoaa.quoRaised
