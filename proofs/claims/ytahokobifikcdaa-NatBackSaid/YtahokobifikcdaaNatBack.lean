/-
  PROVED: the statement NatBack (tombolalaw02.NatBack) about the landed commit: for every input the law returns true and leaves its arguments as they were. Conditions: none beyond those that the given row itself prints.
-/
import Derived.Test.YtahokobifikcdaaRows
import Derived.WalkKit
import Derived.ProofKit
import Derived.OpenShut
import Derived.RowKit3
import Derived.Test.YtahokobifikcdaaLawFrame
import Derived.Test.YtahokobifikcdaaNatOpen
import Derived.Test.YtahokobifikcdaaNatAwake
namespace Go.Proofs.Ytahokobifikcdaa.natBack
open Go.ChangeShapes Go.WideShapes Go.ChangeAt Go.RowKit
set_option linter.unusedVariables false
open N
theorem own : ownKnob Try.prog.godebug = none := by kernel_rfl
section
variable {w0 w w' : World} {S : List Ent} {A A' : Option Addr} {n c m d k k' : Nat} {xs ys : List Int} {v u : Int}
theorem cmp_lt (h : St w0 w S) (h1 : (⟨A, n, c, k, xs, v⟩ : Ent) ∈ S) (h2 : (⟨A', m, d, k', ys, u⟩ : Ent) ∈ S) (hk : k ≤ 1099511627776) (hk' : k' ≤ 1099511627776) (hv : v < u) :
    Calls Try.prog 24 #[.slice A n c, .slice A' m d] w fun e w' => e = .returned (.int .i64 (-1)) ∧ St w0 w' S := by
  rw [← cmpI_lt hv]; exact cmp_s h h1 h2 hk hk'
theorem cmp_ge (h : St w0 w S) (h1 : (⟨A, n, c, k, xs, v⟩ : Ent) ∈ S) (h2 : (⟨A', m, d, k', ys, u⟩ : Ent) ∈ S) (hk : k ≤ 1099511627776) (hk' : k' ≤ 1099511627776) (hv : u ≤ v) :
    Calls Try.prog 24 #[.slice A n c, .slice A' m d] w fun e w' => ∃ r : Int, e = .returned (.int .i64 r) ∧ 0 ≤ r ∧ St w0 w' S := by
  refine (cmp_s h h1 h2 hk hk').mono fun e w' ⟨he, hs⟩ => ⟨_, he, ?_, hs⟩
  unfold cmpI; split
  · omega
  · split <;> omega
end
set_option maxRecDepth 100000 in
set_option maxHeartbeats 4000000 in
theorem walk (w : World) (A0 : Option Addr) (n0 c0 : Nat) (xs0 : List Int) (h0 : Sl w A0 n0 c0 xs0) (A1 : Option Addr) (n1 c1 : Nat) (xs1 : List Int) (h1 : Sl w A1 n1 c1 xs1) :
    Calls Try.prog 9 #[.slice A0 n0 c0, .slice A1 n1 c1] w fun e w' => e = .returned (.bool true) ∧ Below w.heap.size w w' := by
  have hc0 := h0.cap
  have hm0 := h0.max
  have hc1 := h1.cap
  have hm1 := h1.max
  unfold maxLen at hm0 hm1
  obtain ⟨va, hva⟩ : ∃ v : Int, val B xs0 = v := ⟨_, rfl⟩
  obtain ⟨vb, hvb⟩ : ∃ v : Int, val B xs1 = v := ⟨_, rfl⟩
  have ga : 0 ≤ va := by rw [← hva]; exact val_nonneg (by decide) h0.dg
  have gb : 0 ≤ vb := by rw [← hvb]; exact val_nonneg (by decide) h1.dg
  by_cases hl : n0 ≤ 24 ∧ n1 ≤ 24
  · obtain ⟨l0, l1⟩ := hl
    by_cases hab : va < vb
    · have hS0 := ((St.nil_ w).zero.cons h0 l0 hva).cons h1 l1 hvb
      have hS := Lib.hid hS0
      clear hS0 hva hvb h0 h1
      go_enter Try.func9, Try.ntmps9
      go_wp2_with (first
          | (go_at_call 12; (with_reducible refine (long2_n hS.out _ _ _ _ _ _ (by omega) (by omega)).mono ?_); rintro e w' ⟨rfl, h1⟩; clear hS; have hS := Lib.hid h1; clear h1)
          | (go_at_call 13; (with_reducible refine (awake_s hS.out ).mono ?_); rintro e w' ⟨rfl, h1⟩; clear hS; have hS := Lib.hid h1; clear h1)
          | (go_at_call 31; (with_reducible refine (add_s hS.out (by repeat (first | exact List.mem_cons_self | apply List.mem_cons_of_mem)) (by repeat (first | exact List.mem_cons_self | apply List.mem_cons_of_mem)) (by omega) (by omega)).mono ?_); rintro e w' ⟨B1, m1, d1, rfl, h1⟩; clear hS; have hS := Lib.hid h1; clear h1)
          | (go_at_call 32; (with_reducible refine (sub_s hS.out (by repeat (first | exact List.mem_cons_self | apply List.mem_cons_of_mem)) (by repeat (first | exact List.mem_cons_self | apply List.mem_cons_of_mem)) (by omega) (by omega) (by omega)).mono ?_); rintro e w' ⟨B2, m2, d2, rfl, h1⟩; clear hS; have hS := Lib.hid h1; clear h1)
          | (go_at_call 32; (with_reducible refine (sub_n hS.out (by repeat (first | exact List.mem_cons_self | apply List.mem_cons_of_mem)) (by repeat (first | exact List.mem_cons_self | apply List.mem_cons_of_mem)) (by omega) (by omega) (by omega)).mono ?_); rintro e w' ⟨rfl, h1⟩; clear hS; have hS := Lib.hid h1; clear h1)
          | (go_at_call 16; (with_reducible refine (trim_s hS.out (by repeat (first | exact List.mem_cons_self | apply List.mem_cons_of_mem)) (by omega)).mono ?_); rintro e w' ⟨B3, m3, d3, rfl, h1⟩; clear hS; have hS := Lib.hid h1; clear h1)
          | (go_at_call 24; (with_reducible refine (cmp_lt hS.out (by repeat (first | exact List.mem_cons_self | apply List.mem_cons_of_mem)) (by repeat (first | exact List.mem_cons_self | apply List.mem_cons_of_mem)) (by omega) (by omega) (by omega)).mono ?_); rintro e w' ⟨rfl, h1⟩; clear hS; have hS := Lib.hid h1; clear h1)
          | (go_at_call 24; (with_reducible refine (cmp_ge hS.out (by repeat (first | exact List.mem_cons_self | apply List.mem_cons_of_mem)) (by repeat (first | exact List.mem_cons_self | apply List.mem_cons_of_mem)) (by omega) (by omega) (by omega)).mono ?_); rintro e w' ⟨r, rfl, hr, h1⟩; clear hS; have hS := Lib.hid h1; clear h1)
          | (go_at_call 18; (with_reducible refine (same_s hS.out (by repeat (first | exact List.mem_cons_self | apply List.mem_cons_of_mem)) (by repeat (first | exact List.mem_cons_self | apply List.mem_cons_of_mem)) (by first | rfl | (congr 1; omega))).mono ?_); rintro e w' ⟨rfl, h1⟩; clear hS; have hS := Lib.hid h1; clear h1))
      all_goals go_ret
      all_goals exact ⟨rfl, hS.out.1⟩
    · have hS0 := ((St.nil_ w).zero.cons h0 l0 hva).cons h1 l1 hvb
      have hS := Lib.hid hS0
      clear hS0 hva hvb h0 h1
      go_enter Try.func9, Try.ntmps9
      go_wp2_with (first
          | (go_at_call 12; (with_reducible refine (long2_n hS.out _ _ _ _ _ _ (by omega) (by omega)).mono ?_); rintro e w' ⟨rfl, h1⟩; clear hS; have hS := Lib.hid h1; clear h1)
          | (go_at_call 13; (with_reducible refine (awake_s hS.out ).mono ?_); rintro e w' ⟨rfl, h1⟩; clear hS; have hS := Lib.hid h1; clear h1)
          | (go_at_call 31; (with_reducible refine (add_s hS.out (by repeat (first | exact List.mem_cons_self | apply List.mem_cons_of_mem)) (by repeat (first | exact List.mem_cons_self | apply List.mem_cons_of_mem)) (by omega) (by omega)).mono ?_); rintro e w' ⟨B1, m1, d1, rfl, h1⟩; clear hS; have hS := Lib.hid h1; clear h1)
          | (go_at_call 32; (with_reducible refine (sub_s hS.out (by repeat (first | exact List.mem_cons_self | apply List.mem_cons_of_mem)) (by repeat (first | exact List.mem_cons_self | apply List.mem_cons_of_mem)) (by omega) (by omega) (by omega)).mono ?_); rintro e w' ⟨B2, m2, d2, rfl, h1⟩; clear hS; have hS := Lib.hid h1; clear h1)
          | (go_at_call 32; (with_reducible refine (sub_n hS.out (by repeat (first | exact List.mem_cons_self | apply List.mem_cons_of_mem)) (by repeat (first | exact List.mem_cons_self | apply List.mem_cons_of_mem)) (by omega) (by omega) (by omega)).mono ?_); rintro e w' ⟨rfl, h1⟩; clear hS; have hS := Lib.hid h1; clear h1)
          | (go_at_call 16; (with_reducible refine (trim_s hS.out (by repeat (first | exact List.mem_cons_self | apply List.mem_cons_of_mem)) (by omega)).mono ?_); rintro e w' ⟨B3, m3, d3, rfl, h1⟩; clear hS; have hS := Lib.hid h1; clear h1)
          | (go_at_call 24; (with_reducible refine (cmp_lt hS.out (by repeat (first | exact List.mem_cons_self | apply List.mem_cons_of_mem)) (by repeat (first | exact List.mem_cons_self | apply List.mem_cons_of_mem)) (by omega) (by omega) (by omega)).mono ?_); rintro e w' ⟨rfl, h1⟩; clear hS; have hS := Lib.hid h1; clear h1)
          | (go_at_call 24; (with_reducible refine (cmp_ge hS.out (by repeat (first | exact List.mem_cons_self | apply List.mem_cons_of_mem)) (by repeat (first | exact List.mem_cons_self | apply List.mem_cons_of_mem)) (by omega) (by omega) (by omega)).mono ?_); rintro e w' ⟨r, rfl, hr, h1⟩; clear hS; have hS := Lib.hid h1; clear h1)
          | (go_at_call 18; (with_reducible refine (same_s hS.out (by repeat (first | exact List.mem_cons_self | apply List.mem_cons_of_mem)) (by repeat (first | exact List.mem_cons_self | apply List.mem_cons_of_mem)) (by first | rfl | (congr 1; omega))).mono ?_); rintro e w' ⟨rfl, h1⟩; clear hS; have hS := Lib.hid h1; clear h1))
      all_goals go_ret
      all_goals exact ⟨rfl, hS.out.1⟩
  · have hS0 := St.nil_ w
    have hS := Lib.hid hS0
    have HL := Lib.hid hl
    clear hS0 hva hvb h0 h1 hl
    go_enter Try.func9, Try.ntmps9
    go_wp2_with (first
      | (go_at_call 12; (with_reducible refine (long2_y hS.out _ _ _ _ _ _ (by omega) (by omega) HL.out).mono ?_); rintro e w' ⟨rfl, h1⟩; clear hS; have hS := Lib.hid h1; clear h1)
      | (go_at_call 13; (with_reducible refine (awake_s hS.out ).mono ?_); rintro e w' ⟨rfl, h1⟩; clear hS; have hS := Lib.hid h1; clear h1))
    go_ret
    exact ⟨rfl, hS.out.1⟩
set_option maxRecDepth 100000 in
theorem lifted (os : Os) (started : os.Started) (H : Type) (enc : TypeId × Value → H) :
    ReturnsInHanded {} Try.checked os 9 .any (Rows.natBackSpec.pre6 enc Try.prog Try.f9 Rows.natBackRow.domain false) (Rows.natBackSpec.post enc Try.prog Try.f9 false true false false) := by
  refine returnsInHanded_of_change (C := Try.checked) own started (by kernel_rfl) Try.func9
    (ChangeSpec.witness6 (enc := enc) (C := Try.checked) false ⟨#[], #[.slice none 0 0, .slice none 0 0], []⟩ 8 (by kernel_rfl) (by kernel_rfl) (by kernel_rfl) (by kernel_rfl)) ?_
  intro W base args ds gs before hval0 hW hcnd _
  have hval : ∀ (j : Nat) t v, Try.f9.params[j]? = some t → args[j]? = some v → Value.okWide Try.prog W .any base t v := hval0
  have hW' := hW
  obtain ⟨p, q, hA0, hV, hpq, hfz, hnd⟩ := hW
  have hA : DataW.TrodAll enc Try.prog W 0 (fun _ => true) true Try.f9.params.toList args.toList ds p := hA0
  rw [Try.params9] at hA hval
  obtain ⟨v0, vs0, d0, ds0, p0, q0, hargs, rfl, rfl, h0, r0⟩ := trodAll_cons hA
  obtain ⟨v1, vs1, d1, ds1, p1, q1, rfl, rfl, rfl, h1, r1⟩ := trodAll_cons r0
  obtain ⟨rfl, rfl, rfl⟩ := trodAll_nil r1
  obtain rfl : args = #[v0, v1] := by cases args; simp_all
  obtain ⟨rfl, rfl⟩ := trodVars_none hV
  obtain ⟨A0, n0, c0, xs0, rfl, s0⟩ := open_natural (hval 0 23 v0 rfl rfl) h0
  obtain ⟨A1, n1, c1, xs1, rfl, s1⟩ := open_natural (hval 1 23 v1 rfl rfl) h1
  refine (walk W A0 n0 c0 xs0 s0 A1 n1 c1 xs1 s1).mono fun e W' ⟨he, hb⟩ => ?_
  subst he
  exact ⟨_, rfl, Frame.close laidOut hW' rfl rfl rfl Try.underlying4 (fun t ht => by rw [Try.params9] at ht; simp at ht; first | exact ht.elim | (rcases ht with rfl <;> exact ⟨by kernel_rfl, of_decide_eq_true (by kernel_rfl)⟩)) hb⟩
theorem over : Rows.natBackRow.holds Try.pinned (OpenSpec.ofChange Rows.natBackSpec) :=
  OpenClaim.holds_of_wide 9 Try.f9 rfl rfl rfl rfl rfl rfl rfl ⟨rfl, rfl, rfl, rfl, rfl⟩ rfl rfl rfl rfl rfl (by kernel_rfl) Try.func9 (by kernel_rfl)
    (of_decide_eq_true (by kernel_rfl)) (by unfold Func.isWrapper; first | (rw [if_pos (by decide +kernel)]; kernel_rfl) | (rw [if_neg (by decide +kernel)]; exact ⟨rfl, rfl⟩))
    (fun os started H enc _ => lifted os started H enc)
/-- the statement -/
theorem proved : Rows.NatBackSaid :=
  over
#print axioms proved
end Go.Proofs.Ytahokobifikcdaa.natBack
