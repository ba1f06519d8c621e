/-
  PROVED: the statement NatTails (tombolalaw02.NatTails) about the landed commit: for every input the law returns true and leaves its arguments as they were. Conditions: none beyond those that the given row itself prints.
-/
import Derived.Test.YtahokobifikcdaaRows
import Derived.WalkKit
import Derived.ProofKit
import Derived.OpenShut
import Derived.RowKit3
import Derived.Test.YtahokobifikcdaaLawFrame
import Derived.Test.YtahokobifikcdaaNatOpen
import Derived.Test.YtahokobifikcdaaNatAwake
import Derived.Test.YtahokobifikcdaaNatState2
import Derived.Test.YtahokobifikcdaaNatTail
namespace Go.Proofs.Ytahokobifikcdaa.natTails
open Go.ChangeShapes Go.WideShapes Go.ChangeAt Go.RowKit
set_option linter.unusedVariables false
open N
theorem own : ownKnob Try.prog.godebug = none := by kernel_rfl
section
variable {w0 w w' : World} {S : List Ent} {A A' : Option Addr} {n c m d k k' : Nat} {xs ys : List Int} {v u : Int}
theorem cmp_eq (h : St w0 w S) (h1 : (⟨A, n, c, k, xs, v⟩ : Ent) ∈ S) (h2 : (⟨A', m, d, k', ys, v⟩ : Ent) ∈ S) (hk : k ≤ 1099511627776) (hk' : k' ≤ 1099511627776) :
    Calls Try.prog 24 #[.slice A n c, .slice A' m d] w fun e w' => e = .returned (.int .i64 0) ∧ St w0 w' S := by
  have := cmp_s h h1 h2 hk hk'
  rwa [cmpI_eq rfl] at this
end
set_option maxRecDepth 100000 in
set_option maxHeartbeats 4000000 in
theorem walk (w : World) (A0 : Option Addr) (n0 c0 : Nat) (xs0 : List Int) (h0 : Sl w A0 n0 c0 xs0) (A1 : Option Addr) (n1 c1 : Nat) (xs1 : List Int) (h1 : Sl w A1 n1 c1 xs1) (a2 : Int) (w2 : (Lit.int .u8 a2).wf = true) (a3 : Int) (w3 : (Lit.int .u8 a3).wf = true) :
    Calls Try.prog 11 #[.slice A0 n0 c0, .slice A1 n1 c1, .int .u8 a2, .int .u8 a3] w fun e w' => e = .returned (.bool true) ∧ Below w.heap.size w w' := by
  have hc0 := h0.cap
  have hm0 := h0.max
  have hc1 := h1.cap
  have hm1 := h1.max
  unfold maxLen at hm0 hm1
  have b2 := bounds_u8 w2
  have b3 := bounds_u8 w3
  have hw3 : W.Wd a3 := by unfold W.Wd; omega
  obtain ⟨Q1, hQ1⟩ : ∃ N : Nat, a2 % 4 = (N : Int) := ⟨(a2 % 4).toNat, by omega⟩
  obtain ⟨Q2, hQ2⟩ : ∃ N : Nat, a2 / 4 % 4 = (N : Int) := ⟨(a2 / 4 % 4).toNat, by omega⟩
  have q1 : Q1 ≤ 3 := by omega
  have q2 : Q2 ≤ 3 := by omega
  obtain ⟨va, hva⟩ : ∃ v : Int, val B xs0 = v := ⟨_, rfl⟩
  obtain ⟨vb, hvb⟩ : ∃ v : Int, val B xs1 = v := ⟨_, rfl⟩
  have ga : 0 ≤ va := by rw [← hva]; exact val_nonneg (by decide) h0.dg
  have gb : 0 ≤ vb := by rw [← hvb]; exact val_nonneg (by decide) h1.dg
  by_cases hl : n0 ≤ 24 ∧ n1 ≤ 24
  · obtain ⟨l0, l1⟩ := hl
    by_cases hab : va < vb
    · have hS0 := ((St.nil_ w).zero.cons h0 l0 hva).cons h1 l1 hvb
      have hS := Lib.hid hS0
      clear hS0 hva hvb h0 h1
      go_enter Try.func11, Try.ntmps11
      go_wp2_with (first
          | (go_at_call 12; (with_reducible refine (long2_n hS.out _ _ _ _ _ _ (by omega) (by omega)).mono ?_); rintro e w' ⟨rfl, h1⟩; clear hS; have hS := Lib.hid h1; clear h1)
          | (go_at_call 13; (with_reducible refine (awake_s hS.out ).mono ?_); rintro e w' ⟨rfl, h1⟩; clear hS; have hS := Lib.hid h1; clear h1)
          | (go_at_call 39; (with_reducible refine (tail_s hS.out (by repeat (first | exact List.mem_cons_self | apply List.mem_cons_of_mem)) (by omega) Q1 q1).mono ?_); rintro e w' ⟨B2, m2, d2, rfl, h1⟩; clear hS; have hS := Lib.hid h1; clear h1)
          | (go_at_call 39; (with_reducible refine (tail_s hS.out (by repeat (first | exact List.mem_cons_self | apply List.mem_cons_of_mem)) (by omega) Q2 q2).mono ?_); rintro e w' ⟨B3, m3, d3, rfl, h1⟩; clear hS; have hS := Lib.hid h1; clear h1)
          | (go_at_call 32; (with_reducible refine (sub_s hS.out (by repeat (first | exact List.mem_cons_self | apply List.mem_cons_of_mem)) (by repeat (first | exact List.mem_cons_self | apply List.mem_cons_of_mem)) (by omega) (by omega) (by omega)).mono ?_); rintro e w' ⟨B4, m4, d4, rfl, h1⟩; clear hS; have hS := Lib.hid h1; clear h1)
          | (go_at_call 32; (with_reducible refine (sub_n hS.out (by repeat (first | exact List.mem_cons_self | apply List.mem_cons_of_mem)) (by repeat (first | exact List.mem_cons_self | apply List.mem_cons_of_mem)) (by omega) (by omega) (by omega)).mono ?_); rintro e w' ⟨rfl, h1⟩; clear hS; have hS := Lib.hid h1; clear h1)
          | (go_at_call 37; (with_reducible refine (shl_s hS.out (by repeat (first | exact List.mem_cons_self | apply List.mem_cons_of_mem)) (by omega) (by omega) (by omega)).mono ?_); rintro e w' ⟨B5, m5, d5, rfl, h1⟩; clear hS; have hS := Lib.hid h1; clear h1)
          | (go_at_call 38; (with_reducible refine (shr_s hS.out (by repeat (first | exact List.mem_cons_self | apply List.mem_cons_of_mem)) (by omega) (by omega) (by omega)).mono ?_); rintro e w' ⟨B6, m6, d6, rfl, h1⟩; clear hS; have hS := Lib.hid h1; clear h1)
          | (go_at_call 31; (with_reducible refine (add_s hS.out (by repeat (first | exact List.mem_cons_self | apply List.mem_cons_of_mem)) (by repeat (first | exact List.mem_cons_self | apply List.mem_cons_of_mem)) (by omega) (by omega)).mono ?_); rintro e w' ⟨B7, m7, d7, rfl, h1⟩; clear hS; have hS := Lib.hid h1; clear h1)
          | (go_at_call 36; (with_reducible refine (mul_s hS.out (by repeat (first | exact List.mem_cons_self | apply List.mem_cons_of_mem)) (by repeat (first | exact List.mem_cons_self | apply List.mem_cons_of_mem)) (by omega) (by omega)).mono ?_); rintro e w' ⟨B8, m8, d8, rfl, h1⟩; clear hS; have hS := Lib.hid h1; clear h1)
          | (go_at_call 18; (with_reducible refine (same_s hS.out (by repeat (first | exact List.mem_cons_self | apply List.mem_cons_of_mem)) (by repeat (first | exact List.mem_cons_self | apply List.mem_cons_of_mem)) rfl).mono ?_); rintro e w' ⟨rfl, h1⟩; clear hS; have hS := Lib.hid h1; clear h1)
          | (go_at_call 24; (with_reducible refine (cmp_eq hS.out (by repeat (first | exact List.mem_cons_self | apply List.mem_cons_of_mem)) (by repeat (first | exact List.mem_cons_self | apply List.mem_cons_of_mem)) (by omega) (by omega)).mono ?_); rintro e w' ⟨rfl, h1⟩; clear hS; have hS := Lib.hid h1; clear h1)
          | (go_at_call 24; (with_reducible refine (cmp_s hS.out (by repeat (first | exact List.mem_cons_self | apply List.mem_cons_of_mem)) (by repeat (first | exact List.mem_cons_self | apply List.mem_cons_of_mem)) (by omega) (by omega)).mono ?_); rintro e w' ⟨rfl, h1⟩; clear hS; have hS := Lib.hid h1; clear h1)
          | (go_at_call 26; (with_reducible refine (len_s hS.out (by repeat (first | exact List.mem_cons_self | apply List.mem_cons_of_mem)) (by omega)).mono ?_); rintro e w' ⟨rfl, h1⟩; clear hS; have hS := Lib.hid h1; clear h1)
          | (go_at_call 22; (with_reducible refine (zero_b hS.out (by repeat (first | exact List.mem_cons_self | apply List.mem_cons_of_mem))).mono ?_); rintro e w' ⟨rfl, h1⟩; clear hS; have hS := Lib.hid h1; clear h1)
          | (go_at_call 40; (with_reducible refine (trimmed_s hS.out (by repeat (first | exact List.mem_cons_self | apply List.mem_cons_of_mem)) (by first | exact limbs_nn _ | decide +kernel)).mono ?_); rintro e w' ⟨rfl, h1⟩; clear hS; have hS := Lib.hid h1; clear h1)
          | (go_at_call 16; (with_reducible refine (trim_s hS.out (by repeat (first | exact List.mem_cons_self | apply List.mem_cons_of_mem)) (by omega)).mono ?_); rintro e w' ⟨B9, m9, d9, rfl, h1⟩; clear hS; have hS := Lib.hid h1; clear h1)
          | (go_at_call 17; (with_reducible refine (of_s hS.out hw3).mono ?_); rintro e w' ⟨B1, m1, d1, rfl, h1⟩; clear hS; have hS := Lib.hid h1; clear h1))
      all_goals go_ret
      all_goals exact ⟨rfl, hS.out.1⟩
    · have hS0 := ((St.nil_ w).zero.cons h0 l0 hva).cons h1 l1 hvb
      have hS := Lib.hid hS0
      clear hS0 hva hvb h0 h1
      go_enter Try.func11, Try.ntmps11
      go_wp2_with (first
          | (go_at_call 12; (with_reducible refine (long2_n hS.out _ _ _ _ _ _ (by omega) (by omega)).mono ?_); rintro e w' ⟨rfl, h1⟩; clear hS; have hS := Lib.hid h1; clear h1)
          | (go_at_call 13; (with_reducible refine (awake_s hS.out ).mono ?_); rintro e w' ⟨rfl, h1⟩; clear hS; have hS := Lib.hid h1; clear h1)
          | (go_at_call 39; (with_reducible refine (tail_s hS.out (by repeat (first | exact List.mem_cons_self | apply List.mem_cons_of_mem)) (by omega) Q1 q1).mono ?_); rintro e w' ⟨B2, m2, d2, rfl, h1⟩; clear hS; have hS := Lib.hid h1; clear h1)
          | (go_at_call 39; (with_reducible refine (tail_s hS.out (by repeat (first | exact List.mem_cons_self | apply List.mem_cons_of_mem)) (by omega) Q2 q2).mono ?_); rintro e w' ⟨B3, m3, d3, rfl, h1⟩; clear hS; have hS := Lib.hid h1; clear h1)
          | (go_at_call 32; (with_reducible refine (sub_s hS.out (by repeat (first | exact List.mem_cons_self | apply List.mem_cons_of_mem)) (by repeat (first | exact List.mem_cons_self | apply List.mem_cons_of_mem)) (by omega) (by omega) (by omega)).mono ?_); rintro e w' ⟨B4, m4, d4, rfl, h1⟩; clear hS; have hS := Lib.hid h1; clear h1)
          | (go_at_call 32; (with_reducible refine (sub_n hS.out (by repeat (first | exact List.mem_cons_self | apply List.mem_cons_of_mem)) (by repeat (first | exact List.mem_cons_self | apply List.mem_cons_of_mem)) (by omega) (by omega) (by omega)).mono ?_); rintro e w' ⟨rfl, h1⟩; clear hS; have hS := Lib.hid h1; clear h1)
          | (go_at_call 37; (with_reducible refine (shl_s hS.out (by repeat (first | exact List.mem_cons_self | apply List.mem_cons_of_mem)) (by omega) (by omega) (by omega)).mono ?_); rintro e w' ⟨B5, m5, d5, rfl, h1⟩; clear hS; have hS := Lib.hid h1; clear h1)
          | (go_at_call 38; (with_reducible refine (shr_s hS.out (by repeat (first | exact List.mem_cons_self | apply List.mem_cons_of_mem)) (by omega) (by omega) (by omega)).mono ?_); rintro e w' ⟨B6, m6, d6, rfl, h1⟩; clear hS; have hS := Lib.hid h1; clear h1)
          | (go_at_call 31; (with_reducible refine (add_s hS.out (by repeat (first | exact List.mem_cons_self | apply List.mem_cons_of_mem)) (by repeat (first | exact List.mem_cons_self | apply List.mem_cons_of_mem)) (by omega) (by omega)).mono ?_); rintro e w' ⟨B7, m7, d7, rfl, h1⟩; clear hS; have hS := Lib.hid h1; clear h1)
          | (go_at_call 36; (with_reducible refine (mul_s hS.out (by repeat (first | exact List.mem_cons_self | apply List.mem_cons_of_mem)) (by repeat (first | exact List.mem_cons_self | apply List.mem_cons_of_mem)) (by omega) (by omega)).mono ?_); rintro e w' ⟨B8, m8, d8, rfl, h1⟩; clear hS; have hS := Lib.hid h1; clear h1)
          | (go_at_call 18; (with_reducible refine (same_s hS.out (by repeat (first | exact List.mem_cons_self | apply List.mem_cons_of_mem)) (by repeat (first | exact List.mem_cons_self | apply List.mem_cons_of_mem)) rfl).mono ?_); rintro e w' ⟨rfl, h1⟩; clear hS; have hS := Lib.hid h1; clear h1)
          | (go_at_call 24; (with_reducible refine (cmp_eq hS.out (by repeat (first | exact List.mem_cons_self | apply List.mem_cons_of_mem)) (by repeat (first | exact List.mem_cons_self | apply List.mem_cons_of_mem)) (by omega) (by omega)).mono ?_); rintro e w' ⟨rfl, h1⟩; clear hS; have hS := Lib.hid h1; clear h1)
          | (go_at_call 24; (with_reducible refine (cmp_s hS.out (by repeat (first | exact List.mem_cons_self | apply List.mem_cons_of_mem)) (by repeat (first | exact List.mem_cons_self | apply List.mem_cons_of_mem)) (by omega) (by omega)).mono ?_); rintro e w' ⟨rfl, h1⟩; clear hS; have hS := Lib.hid h1; clear h1)
          | (go_at_call 26; (with_reducible refine (len_s hS.out (by repeat (first | exact List.mem_cons_self | apply List.mem_cons_of_mem)) (by omega)).mono ?_); rintro e w' ⟨rfl, h1⟩; clear hS; have hS := Lib.hid h1; clear h1)
          | (go_at_call 22; (with_reducible refine (zero_b hS.out (by repeat (first | exact List.mem_cons_self | apply List.mem_cons_of_mem))).mono ?_); rintro e w' ⟨rfl, h1⟩; clear hS; have hS := Lib.hid h1; clear h1)
          | (go_at_call 40; (with_reducible refine (trimmed_s hS.out (by repeat (first | exact List.mem_cons_self | apply List.mem_cons_of_mem)) (by first | exact limbs_nn _ | decide +kernel)).mono ?_); rintro e w' ⟨rfl, h1⟩; clear hS; have hS := Lib.hid h1; clear h1)
          | (go_at_call 16; (with_reducible refine (trim_s hS.out (by repeat (first | exact List.mem_cons_self | apply List.mem_cons_of_mem)) (by omega)).mono ?_); rintro e w' ⟨B9, m9, d9, rfl, h1⟩; clear hS; have hS := Lib.hid h1; clear h1)
          | (go_at_call 17; (with_reducible refine (of_s hS.out hw3).mono ?_); rintro e w' ⟨B1, m1, d1, rfl, h1⟩; clear hS; have hS := Lib.hid h1; clear h1))
      all_goals go_ret
      all_goals exact ⟨rfl, hS.out.1⟩
  · have hS0 := St.nil_ w
    have hS := Lib.hid hS0
    have HL := Lib.hid hl
    clear hS0 hva hvb h0 h1 hl
    go_enter Try.func11, Try.ntmps11
    go_wp2_with (first
      | (go_at_call 12; (with_reducible refine (long2_y hS.out _ _ _ _ _ _ (by omega) (by omega) HL.out).mono ?_); rintro e w' ⟨rfl, h1⟩; clear hS; have hS := Lib.hid h1; clear h1)
      | (go_at_call 13; (with_reducible refine (awake_s hS.out ).mono ?_); rintro e w' ⟨rfl, h1⟩; clear hS; have hS := Lib.hid h1; clear h1))
    go_ret
    exact ⟨rfl, hS.out.1⟩
set_option maxRecDepth 100000 in
theorem lifted (os : Os) (started : os.Started) (H : Type) (enc : TypeId × Value → H) :
    ReturnsInHanded {} Try.checked os 11 .any (Rows.natTailsSpec.pre6 enc Try.prog Try.f11 Rows.natTailsRow.domain false) (Rows.natTailsSpec.post enc Try.prog Try.f11 false true false false) := by
  refine returnsInHanded_of_change (C := Try.checked) own started (by kernel_rfl) Try.func11
    (ChangeSpec.witness6 (enc := enc) (C := Try.checked) false ⟨#[], #[.slice none 0 0, .slice none 0 0, .int .u8 0, .int .u8 0], []⟩ 8 (by kernel_rfl) (by kernel_rfl) (by kernel_rfl) (by kernel_rfl)) ?_
  intro W base args ds gs before hval0 hW hcnd _
  have hval : ∀ (j : Nat) t v, Try.f11.params[j]? = some t → args[j]? = some v → Value.okWide Try.prog W .any base t v := hval0
  have hW' := hW
  obtain ⟨p, q, hA0, hV, hpq, hfz, hnd⟩ := hW
  have hA : DataW.TrodAll enc Try.prog W 0 (fun _ => true) true Try.f11.params.toList args.toList ds p := hA0
  rw [Try.params11] at hA hval
  obtain ⟨v0, vs0, d0, ds0, p0, q0, hargs, rfl, rfl, h0, r0⟩ := trodAll_cons hA
  obtain ⟨v1, vs1, d1, ds1, p1, q1, rfl, rfl, rfl, h1, r1⟩ := trodAll_cons r0
  obtain ⟨v2, vs2, d2, ds2, p2, q2, rfl, rfl, rfl, h2, r2⟩ := trodAll_cons r1
  obtain ⟨v3, vs3, d3, ds3, p3, q3, rfl, rfl, rfl, h3, r3⟩ := trodAll_cons r2
  obtain ⟨rfl, rfl, rfl⟩ := trodAll_nil r3
  obtain rfl : args = #[v0, v1, v2, v3] := by cases args; simp_all
  obtain ⟨rfl, rfl⟩ := trodVars_none hV
  obtain ⟨A0, n0, c0, xs0, rfl, s0⟩ := open_natural (hval 0 23 v0 rfl rfl) h0
  obtain ⟨A1, n1, c1, xs1, rfl, s1⟩ := open_natural (hval 1 23 v1 rfl rfl) h1
  obtain ⟨a2, rfl, rfl, rfl, w2⟩ := open_int Try.underlying5 (hval 2 5 v2 rfl rfl) h2
  obtain ⟨a3, rfl, rfl, rfl, w3⟩ := open_int Try.underlying5 (hval 3 5 v3 rfl rfl) h3
  refine (walk W A0 n0 c0 xs0 s0 A1 n1 c1 xs1 s1 a2 w2 a3 w3).mono fun e W' ⟨he, hb⟩ => ?_
  subst he
  exact ⟨_, rfl, Frame.close laidOut hW' rfl rfl rfl Try.underlying4 (fun t ht => by rw [Try.params11] at ht; simp at ht; rcases ht with rfl | rfl <;> exact ⟨by kernel_rfl, of_decide_eq_true (by kernel_rfl)⟩) hb⟩
theorem over : Rows.natTailsRow.holds Try.pinned (OpenSpec.ofChange Rows.natTailsSpec) :=
  OpenClaim.holds_of_wide 11 Try.f11 rfl rfl rfl rfl rfl rfl rfl ⟨rfl, rfl, rfl, rfl, rfl⟩ rfl rfl rfl rfl rfl (by kernel_rfl) Try.func11 (by kernel_rfl)
    (of_decide_eq_true (by kernel_rfl)) (by unfold Func.isWrapper; first | (rw [if_pos (by decide +kernel)]; kernel_rfl) | (rw [if_neg (by decide +kernel)]; exact ⟨rfl, rfl⟩))
    (fun os started H enc _ => lifted os started H enc)
/-- the statement -/
theorem proved : Rows.NatTailsSaid :=
  over
#print axioms proved
end Go.Proofs.Ytahokobifikcdaa.natTails
